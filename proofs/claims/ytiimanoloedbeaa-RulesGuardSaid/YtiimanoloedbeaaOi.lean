/-
  What Finish does with a copy of a head. Conditions: the copy is the call's own and good, its rows lie in blocks of their own.
-/
import Derived.Test.YtiimanoloedbeaaOh

namespace Go.Proofs.Ytiimanoloedbeaa
open Go.RowKit Go.BigFrame
set_option linter.unusedSimpArgs false
set_option linter.unusedVariables false
set_option maxRecDepth 100000
/-- as L_first, where what waits for i is named: L among it -/
theorem D_first {P : Program} {ops : Array Oper} {Q : Exit → Act → World → Prop} {md : Region.Mode} {S : World → Prop} {L : Nat} (D : List Nat) {i : Nat} {oi : Oper} {v : Value} (hi : ops[i]? = some oi) (hDL : L ∈ D) (hD : ∀ j ∈ D, ∃ oj, ops[j]? = some oj ∧ ∃ e ∈ oj.after, Region.binds md e = true ∧ (e.on = i ∨ e.on ∈ D)) (hsel : ∀ (j : Nat) (o : Oper) cs b, ops[j]? = some o → o.op ≠ .select cs b)
    (hQ : ∀ c a w, Q (.panic c) (a.put oi.dst v) w → Q (.panic c) a w) :
    ∀ (f : Nat) (l : Array Bool) (a : Act) (w : World), (∀ j ∈ D, l.getD j true = false) →
      (∀ j oj, ops[j]? = some oj → j ≠ i → l.getD j true = false → (∀ e ∈ oj.after, Region.binds md e = true → e.on ≠ i) → oi.apart ops oj = true) →
      i ∈ Region.ready md ops l → YieldsIf P ops S oi v a → S w →
      wpAnyL P md ops Q S L f (l.setIfInBounds i true) (a.put oi.dst v) w → wpAnyL P md ops Q S L (f + 1) l a w
  | 0, l, a, w, hl, _, hr, hy, hS, H => by
    refine ⟨fun h => (by rw [h] at hr; cases hr), fun j hj => ?_⟩
    by_cases hji : j = i
    · subst hji
      exact hy.wpOp hi hS ⟨fun _ => hS, H⟩
    · have := ready_mono hj hji
      rw [H.1] at this
      cases this
  | f + 1, l, a, w, hl, hfree, hr, hy, hS, H => by
    refine ⟨fun h => (by rw [h] at hr; cases hr), fun j hj => ?_⟩
    by_cases hji : j = i
    · subst hji
      exact hy.wpOp hi hS ⟨fun _ => hS, H⟩
    · obtain ⟨hjun, oj, hoj, hall⟩ := mem_ready.1 hj
      have hiun : l.getD i true = false := (mem_ready.1 hr).1
      have h1 := H.2 j (ready_mono hj hji)
      have hun : ∀ q, l.getD q true = false → ∀ e ∈ oj.after, Region.binds md e = true → e.on ≠ q := fun q hq e he hb heq => by
        have h2 := hall e he hb
        rw [heq] at h2
        rcases Nat.lt_or_ge q l.size with h' | h'
        · simp [h'] at hq h2
          rw [hq] at h2
          cases h2
        · simp [Array.getElem?_eq_none h'] at h2
      have hnot := hun i hiun
      have hjD : j ∉ D := fun hm => by
        obtain ⟨o2, ho2, e, he, hb, hon⟩ := hD j hm
        rw [hoj] at ho2
        injection ho2 with ho2
        subst ho2
        rcases hon with h | h
        · exact hnot e he hb h
        · exact hun e.on (hl _ h) e he hb rfl
      have hjL : j ≠ L := fun h => hjD (h ▸ hDL)
      have h2 := wpOp_putIf hoj (hfree j oj hoj hji hjun hnot) (fun cs b => hsel i oi cs b hi) (fun cs b => hsel j oj cs b hoj) hQ hy h1
      refine wpOp_mono (fun a' w' h3 => ?_) h2
      obtain ⟨hy', hS', H'⟩ := h3
      rw [Array.setIfInBounds_comm _ _ (Ne.symm hji)] at H'
      refine ⟨fun _ => hS' hjL, D_first D hi hDL hD hsel hQ f _ a' w' (fun q hq => ?_) (fun k ok hk hki hun hno => hfree k ok hk hki ?_ hno) (ready_mono hr (Ne.symm hji)) hy' (hS' hjL) H'⟩
      · have hne : j ≠ q := fun h => hjD (h ▸ hq)
        rw [getD_set_ne true hne]
        exact hl q hq
      · by_cases hjk : j = k
        · subst hjk; exact hjun
        · rw [getD_set_ne true hjk] at hun; exact hun
/-- what reads under S is taken first; the last operation waits for it, by way of others -/
theorem D_take {P : Program} {ops : Array Oper} {Q : Exit → Act → World → Prop} {md : Region.Mode} {S : World → Prop} {L : Nat} (D : List Nat) {i : Nat} {oi : Oper} {v : Value} {f : Nat} {l : Array Bool} {a : Act} {w : World} (hi : ops[i]? = some oi) (hDL : D.contains L = true) (hD : (D.all fun j => match ops[j]? with | some oj => oj.after.any (fun e => Region.binds md e && (e.on == i || D.contains e.on)) | none => false) = true) (hl : (D.all fun j => !(l.getD j true)) = true)
    (hs : Region.noSelect ops = true) (hf : Region.free md ops l i = true) (hr : (Region.ready md ops l).contains i = true)
    (hQ : ∀ c a w, Q (.panic c) (a.put oi.dst v) w → Q (.panic c) a w) (hy : YieldsIf P ops S oi v a) (hS : S w)
    (h : wpAnyL P md ops Q S L f (l.setIfInBounds i true) (a.put oi.dst v) w) : wpAnyL P md ops Q S L (f + 1) l a w :=
  D_first D hi (by simpa using hDL) (fun j hj => by
    have h1 := List.all_eq_true.1 hD j hj
    cases ho : ops[j]? with
    | none => rw [ho] at h1; cases h1
    | some oj =>
      rw [ho] at h1
      obtain ⟨k, hk, he⟩ := Array.any_eq_true.1 h1
      simp only [Bool.and_eq_true, Bool.or_eq_true, beq_iff_eq, List.contains_iff_mem] at he
      exact ⟨oj, rfl, _, Array.getElem_mem hk, he.1, he.2⟩) (Region.noSelect_spec hs) hQ f l a w (fun j hj => by
    have h1 := List.all_eq_true.1 hl j hj
    simpa using h1) (Region.free_spec hi hf) (by simpa using hr) hy hS h
theorem num_back {v : HdV} (hB : v.B = true) (h : v.it = 2 ∨ v.it = 3) : ∃ (i : Nat) (s : SnV), idxN v v.tg = i ∧ v.sn[i]? = some s := by
  have h8 := ((B_iff v).1 hB).2.2.2.2.2.2.2
  rw [itB_iff] at h8
  have hm : v.tg ∈ v.sn.map SnV.num := by
    rcases h8 with h8 | h8 | h8
    · omega
    · exact h8.2
    · omega
  obtain ⟨s, hs, e⟩ := List.mem_map.1 hm
  have h0 : 0 ≤ idxI (fun s : SnV => s.num == v.tg) v.sn := by
    rcases Int.lt_or_le (idxI (fun s : SnV => s.num == v.tg) v.sn) 0 with h | h
    · have := (idx_neg _ _).1 h s hs
      rw [e] at this
      simp at this
    · exact h
  obtain ⟨k, x, e, hx, -⟩ := idx_at _ v.sn h0
  exact ⟨k, x, e, hx⟩
/-- behind what was done, nothing is -/
theorem idle_N {c : HA} {w w1 : World} {base g : Nat} (k : Blk w g 36 c.cs) (hN : c.N w base []) (o : Only [g] w w1) : ({ c with it := 0, tg := 0 } : HA).N w1 base [] := by
  have h := hN.stay k o
  exact ⟨h.vw, h.sn, h.own, h.id, h.obj, h.seq, h.ow, by unfold I64; show -9223372036854775808 ≤ (0 : Int) ∧ (0 : Int) ≤ 9223372036854775807; omega, by unfold I64; show -9223372036854775808 ≤ (0 : Int) ∧ (0 : Int) ≤ 9223372036854775807; omega⟩
set_option maxHeartbeats 32000000 in
theorem fin1_any (W : World) (base g : Nat) (c : HA) (hb : base ≤ W.heap.size) (hg : base ≤ g) (k : Blk W g 36 c.cs) (hN : c.N W base []) (hdj : c.Dj) (hB : c.v.B = true) (hc : c.sn.length ≤ 1000) (hml : c.vw.row.length ≤ 1000000 ∧ ∀ x ∈ c.sn, x.vw.row.length ≤ 1000000) :
    Calls Try.prog 128 #[.pointer (some ⟨g, 0, none⟩)] W (DoesTo base [] g (fun k _ => FinE c.v k) (fun v _ => FinO c.v v) W) := by
  have K0 : Blk W g 36 #[.int .i64 c.id, .int .i64 c.vw.size, .int .i64 c.obj, .int .i64 c.seq, .slice c.S c.sn.length c.cs', .bool c.vw.on, .bool c.vw.good, .slice c.vw.M c.vw.row.length c.vw.cm, .string (strOf c.vw.par), .int .i64 c.vw.ps, .int .i64 c.vw.ov, .int .i64 c.ow, .int .i64 c.it, .int .i64 c.tg] := k
  have HK := Lib.hid (And.intro k (And.intro hN (And.intro hb (And.intro hg (And.intro hdj (And.intro hB (And.intro hc hml)))))))
  have HB1 : Hid (∀ W', Below W.heap.size W W' → Blk W' g 36 #[.int .i64 c.id, .int .i64 c.vw.size, .int .i64 c.obj, .int .i64 c.seq, .slice c.S c.sn.length c.cs', .bool c.vw.on, .bool c.vw.good, .slice c.vw.M c.vw.row.length c.vw.cm, .string (strOf c.vw.par), .int .i64 c.vw.ps, .int .i64 c.vw.ov, .int .i64 c.ow, .int .i64 c.it, .int .i64 c.tg]) := Lib.hid fun W' hW' => K0.of (hW'.block _ K0.lt)
  have HNM : Hid (∀ W', Below W.heap.size W W' → Calls Try.prog 30 #[.agg #[.int .i64 c.id, .int .i64 c.vw.size, .int .i64 c.obj, .int .i64 c.seq, .slice c.S c.sn.length c.cs', .bool c.vw.on, .bool c.vw.good, .slice c.vw.M c.vw.row.length c.vw.cm, .string (strOf c.vw.par), .int .i64 c.vw.ps, .int .i64 c.vw.ov, .int .i64 c.ow, .int .i64 c.it, .int .i64 c.tg], .int .i64 c.tg] W' fun e w' => e = .returned (.int .i64 (idxN c.v c.tg)) ∧ Below W'.heap.size W' w') := Lib.hid fun W' hW' => by rw [idxN_own]; exact number_any c c.tg W' (hN.below hW').R (by omega)
  have q12 : W.cell? ⟨g, 12, none⟩ = some (.int .i64 c.it) := K0.cell 12
  have q13 : W.cell? ⟨g, 13, none⟩ = some (.int .i64 c.tg) := K0.cell 13
  clear k hN hb hg hdj hB hc hml K0
  go_enter Try.func128, Try.ntmps128
  by_cases i1 : c.it = 1
  · as_aux_lemma =>
    have HIT := Lib.hid i1
    rw [i1] at q12
    clear i1
    have HTG : Hid (0 ≤ c.tg ∧ c.tg ≤ 4096) := Lib.hid (by
      have h8 := ((B_iff c.v).1 HK.out.2.2.2.2.2.1).2.2.2.2.2.2.2
      rw [itB_iff] at h8
      rcases h8 with h | h | h
      · exact h.2
      · have := h.1; have e : c.v.it = 1 := HIT.out; omega
      · have := h.1; have e : c.v.it = 1 := HIT.out; omega)
    have HRS := Lib.hid (resize_any W base g c c.tg HK.out.2.2.1 HK.out.2.2.2.1 HK.out.1 HK.out.2.1 HK.out.1.lt HTG.out (good_sizes HK.out.2.2.2.2.2.1).2)
    go_wp2_with fail
    refine HRS.out.mono ?_
    rintro e w2 ⟨rfl, o2, c', k', n', v'⟩
    have HE : Hid (Below base W w2 ∧ Blk w2 g 36 c'.cs ∧ c'.N w2 base [] ∧ c'.v = resV c.v c.tg) := Lib.hid ⟨o2.below (fun x hx => by simp at hx; have := HK.out.2.2.2.1; omega) HK.out.2.2.1, k', n', v'⟩
    clear n' v' o2 q12 q13
    have KP : Blk w2 g 36 #[.int .i64 c'.id, .int .i64 c'.vw.size, .int .i64 c'.obj, .int .i64 c'.seq, .slice c'.S c'.sn.length c'.cs', .bool c'.vw.on, .bool c'.vw.good, .slice c'.vw.M c'.vw.row.length c'.vw.cm, .string (strOf c'.vw.par), .int .i64 c'.vw.ps, .int .i64 c'.vw.ov, .int .i64 c'.ow, .int .i64 c'.it, .int .i64 c'.tg] := k'
    go_wp2_with (first
      | (have _h := KP; refine wpList_setq rfl 3 (.tmp 55) (.const (.int .i64 0)) rfl g 12 36 _ (.int .i64 0) rfl rfl KP (by simp) (by kernel_rfl) rfl ?_; clear _h KP; intro w8 K8 o8 s8)
      | (have _h := K8; refine wpList_setq rfl 3 (.tmp 57) (.const (.int .i64 0)) rfl g 13 36 _ (.int .i64 0) rfl rfl K8 (by simp) (by kernel_rfl) rfl ?_; clear _h K8; intro w9 K9 o9 s9))
    go_ret
    have o99 := o8.trans o9 (fun x h => .inl h)
    exact ⟨Frm.of (HE.out.1.trans (o99.below (fun x hx => by simp at hx; have := HK.out.2.2.2.1; omega) (Nat.le_trans HK.out.2.2.1 HE.out.1.size))), .inr ⟨rfl, { c' with it := 0, tg := 0 }, K9, idle_N HE.out.2.1 HE.out.2.2.1 o99, .inl ⟨HIT.out, by rw [show ({ c' with it := 0, tg := 0 } : HA).v = idle c'.v from rfl, HE.out.2.2.2]; rfl⟩⟩⟩
  have e1 : (c.it == 1) = false := beq_eq_false_iff_ne.2 i1
  by_cases i2 : c.it = 2
  · as_aux_lemma =>
    have HIT := Lib.hid i2
    rw [i2] at q12
    clear i1 i2
    obtain ⟨i, sv, hix, hsv⟩ := num_back HK.out.2.2.2.2.2.1 (by have e : c.v.it = c.it := rfl; rw [e, HIT.out]; simp)
    have hix : idxN c.v c.tg = i := hix
    obtain ⟨s, hs, hss⟩ : ∃ s : SA, c.sn[i]? = some s ∧ s.v = sv := by
      have h : (c.sn.map SA.v)[i]? = some sv := hsv
      rw [List.getElem?_map] at h
      cases h9 : c.sn[i]? with
      | none => rw [h9] at h; cases h
      | some s => rw [h9] at h; injection h with h; exact ⟨s, rfl, h⟩
    subst hss
    obtain ⟨gS, hSg, hgS, hgW, hcl⟩ := sn_at HK.out.2.1 hs
    have HS9 := Lib.hid (And.intro hix (And.intro hsv (And.intro hs (And.intro hSg (And.intro hgW hcl)))))
    have hlt : i < c.sn.length := (List.getElem?_eq_some_iff.1 hs).1
    rw [hix] at HNM
    clear hix hsv hs hSg hgW hcl hgS q13
    have HX : Hid (∀ W', Below W.heap.size W W' → Blk W' g 36 #[.int .i64 c.id, .int .i64 c.vw.size, .int .i64 c.obj, .int .i64 c.seq, .slice (some ⟨gS, 0, none⟩) c.sn.length c.cs', .bool c.vw.on, .bool c.vw.good, .slice c.vw.M c.vw.row.length c.vw.cm, .string (strOf c.vw.par), .int .i64 c.vw.ps, .int .i64 c.vw.ov, .int .i64 c.ow, .int .i64 c.it, .int .i64 c.tg]) := Lib.hid fun W' hW' => by
      have := HB1.out W' hW'
      rw [HS9.out.2.2.2.1] at this
      exact this
    have HNX : Hid (∀ W', Below W.heap.size W W' → Calls Try.prog 30 #[.agg #[.int .i64 c.id, .int .i64 c.vw.size, .int .i64 c.obj, .int .i64 c.seq, .slice (some ⟨gS, 0, none⟩) c.sn.length c.cs', .bool c.vw.on, .bool c.vw.good, .slice c.vw.M c.vw.row.length c.vw.cm, .string (strOf c.vw.par), .int .i64 c.vw.ps, .int .i64 c.vw.ov, .int .i64 c.ow, .int .i64 c.it, .int .i64 c.tg], .int .i64 c.tg] W' fun e w' => e = .returned (.int .i64 (i : Int)) ∧ Below W'.heap.size W' w') := Lib.hid fun W' hW' => by
      have := HNM.out W' hW'
      rw [HS9.out.2.2.2.1] at this
      exact this
    have HRG : Hid (∀ W', Below W.heap.size W W' → W'.rangeAt gS (i * 11) s.cells) := Lib.hid fun W' hW' j v hv => (hW'.cell (by show gS < _; exact HS9.out.2.2.2.2.1)).trans (HS9.out.2.2.2.2.2 j v hv)
    have HBR : Hid (∀ W', Below W.heap.size W W' → Calls Try.prog 129 #[.pointer (some ⟨g, 0, none⟩), .agg s.cells.toArray] W' (BringTo W' base g c s)) := Lib.hid fun W' hW' =>
      bring_any W' base g c s (Nat.le_trans HK.out.2.2.1 hW'.size) HK.out.2.2.2.1 (HK.out.1.of (hW'.block _ HK.out.1.lt)) (HK.out.2.1.below hW') HK.out.2.2.2.2.1 ((HK.out.2.1.sn s (List.mem_of_getElem? HS9.out.2.2.1)).below hW')
        (by
          have h := (vw_iff _ _ _ _).1 (atSn HK.out.2.2.2.2.2.1 HS9.out.2.1).2.vw
          exact ⟨h.1, h.2.1⟩) (good_sizes HK.out.2.2.2.2.2.1).2 (fun hoff => by
          have h := (vw_iff _ _ _ _).1 ((B_iff c.v).1 HK.out.2.2.2.2.2.1).2.2.2.1
          rcases (mkB_iff _ _).1 h.2.2.1 with ⟨h1, _⟩ | ⟨_, h1, _⟩
          · have h2 : c.v.mx.on = false := hoff
            rw [h1] at h2; cases h2
          · exact h1)
    go_upto_region 6 with (fail)
    clear q12
    have hS : Below W.heap.size W W.drew := (Below.refl _ W).drew
    refine any_beginL (fun W' => Below W.heap.size W W') 15 (by kernel_rfl) ?_
    refine D_take [15] (i := 0) (v := .pointer (some ⟨g, 0, none⟩)) rfl rfl (by kernel_rfl) (by kernel_rfl) (by kernel_rfl) (by kernel_rfl) (by kernel_rfl) (fun _ _ _ h => h) (Or.inl ⟨by rfl, fun W' hw => by go_simp⟩) hS ?_
    simp only [Act.put, List.getElem_toArray, List.getElem_cons_succ, List.getElem_cons_zero, List.setIfInBounds_toArray, List.set_cons_zero, List.set_cons_succ]
    refine D_take [2, 3, 4, 13, 14, 15] (i := 1) (v := .pointer (some ⟨g, 0, none⟩)) rfl rfl (by kernel_rfl) (by kernel_rfl) (by kernel_rfl) (by kernel_rfl) (by kernel_rfl) (fun _ _ _ h => h) (Or.inl ⟨by rfl, fun W' hw => by go_simp⟩) hS ?_
    simp only [Act.put, List.getElem_toArray, List.getElem_cons_succ, List.getElem_cons_zero, List.setIfInBounds_toArray, List.set_cons_zero, List.set_cons_succ]
    refine D_take [3, 4, 13, 14, 15] (i := 2) (v := .pointer (some ⟨g, 0, none⟩)) rfl rfl (by kernel_rfl) (by kernel_rfl) (by kernel_rfl) (by kernel_rfl) (by kernel_rfl) (fun _ _ _ h => h) (Or.inl ⟨by rfl, fun W' hw => by go_simp⟩) hS ?_
    simp only [Act.put, List.getElem_toArray, List.getElem_cons_succ, List.getElem_cons_zero, List.setIfInBounds_toArray, List.set_cons_zero, List.set_cons_succ]
    refine D_take [4, 13, 14, 15] (i := 3) (v := .pointer (some ⟨g, 4, none⟩)) rfl rfl (by kernel_rfl) (by kernel_rfl) (by kernel_rfl) (by kernel_rfl) (by kernel_rfl) (fun _ _ _ h => h) (Or.inl ⟨by rfl, fun W' hw => by go_simp⟩) hS ?_
    simp only [Act.put, List.getElem_toArray, List.getElem_cons_succ, List.getElem_cons_zero, List.setIfInBounds_toArray, List.set_cons_zero, List.set_cons_succ]
    refine D_take [13, 14, 15] (i := 4) (v := .slice (some ⟨gS, 0, none⟩) c.sn.length c.cs') rfl rfl (by kernel_rfl) (by kernel_rfl) (by kernel_rfl) (by kernel_rfl) (by kernel_rfl) (fun _ _ _ h => h) (Or.inl ⟨by rfl, fun W' hw => by have k1 : W'.cell? ⟨g, 4, none⟩ = some (.slice (some ⟨gS, 0, none⟩) c.sn.length c.cs') := (HX.out W' hw).cell 4; go_simp⟩) hS ?_
    simp only [Act.put, List.getElem_toArray, List.getElem_cons_succ, List.getElem_cons_zero, List.setIfInBounds_toArray, List.set_cons_zero, List.set_cons_succ]
    refine D_take [6, 7, 12, 13, 14, 15] (i := 5) (v := .pointer (some ⟨g, 0, none⟩)) rfl rfl (by kernel_rfl) (by kernel_rfl) (by kernel_rfl) (by kernel_rfl) (by kernel_rfl) (fun _ _ _ h => h) (Or.inl ⟨by rfl, fun W' hw => by go_simp⟩) hS ?_
    simp only [Act.put, List.getElem_toArray, List.getElem_cons_succ, List.getElem_cons_zero, List.setIfInBounds_toArray, List.set_cons_zero, List.set_cons_succ]
    refine D_take [7, 12, 13, 14, 15] (i := 6) (v := .pointer (some ⟨g, 0, none⟩)) rfl rfl (by kernel_rfl) (by kernel_rfl) (by kernel_rfl) (by kernel_rfl) (by kernel_rfl) (fun _ _ _ h => h) (Or.inl ⟨by rfl, fun W' hw => by go_simp⟩) hS ?_
    simp only [Act.put, List.getElem_toArray, List.getElem_cons_succ, List.getElem_cons_zero, List.setIfInBounds_toArray, List.set_cons_zero, List.set_cons_succ]
    refine D_take [12, 13, 14, 15] (i := 7) (v := .agg #[.int .i64 c.id, .int .i64 c.vw.size, .int .i64 c.obj, .int .i64 c.seq, .slice (some ⟨gS, 0, none⟩) c.sn.length c.cs', .bool c.vw.on, .bool c.vw.good, .slice c.vw.M c.vw.row.length c.vw.cm, .string (strOf c.vw.par), .int .i64 c.vw.ps, .int .i64 c.vw.ov, .int .i64 c.ow, .int .i64 c.it, .int .i64 c.tg]) rfl rfl (by kernel_rfl) (by kernel_rfl) (by kernel_rfl) (by kernel_rfl) (by kernel_rfl) (fun _ _ _ h => h) (Or.inl ⟨by rfl, fun W' hw => by have k0 : W'.cell? ⟨g, 0, none⟩ = some (.int .i64 c.id) := (HX.out W' hw).cell 0; have k1 : W'.cell? ⟨g, 1, none⟩ = some (.int .i64 c.vw.size) := (HX.out W' hw).cell 1; have k2 : W'.cell? ⟨g, 2, none⟩ = some (.int .i64 c.obj) := (HX.out W' hw).cell 2; have k3 : W'.cell? ⟨g, 3, none⟩ = some (.int .i64 c.seq) := (HX.out W' hw).cell 3; have k4 : W'.cell? ⟨g, 4, none⟩ = some (.slice (some ⟨gS, 0, none⟩) c.sn.length c.cs') := (HX.out W' hw).cell 4; have k5 : W'.cell? ⟨g, 5, none⟩ = some (.bool c.vw.on) := (HX.out W' hw).cell 5; have k6 : W'.cell? ⟨g, 6, none⟩ = some (.bool c.vw.good) := (HX.out W' hw).cell 6; have k7 : W'.cell? ⟨g, 7, none⟩ = some (.slice c.vw.M c.vw.row.length c.vw.cm) := (HX.out W' hw).cell 7; have k8 : W'.cell? ⟨g, 8, none⟩ = some (.string (strOf c.vw.par)) := (HX.out W' hw).cell 8; have k9 : W'.cell? ⟨g, 9, none⟩ = some (.int .i64 c.vw.ps) := (HX.out W' hw).cell 9; have k10 : W'.cell? ⟨g, 10, none⟩ = some (.int .i64 c.vw.ov) := (HX.out W' hw).cell 10; have k11 : W'.cell? ⟨g, 11, none⟩ = some (.int .i64 c.ow) := (HX.out W' hw).cell 11; have k12 : W'.cell? ⟨g, 12, none⟩ = some (.int .i64 c.it) := (HX.out W' hw).cell 12; have k13 : W'.cell? ⟨g, 13, none⟩ = some (.int .i64 c.tg) := (HX.out W' hw).cell 13; go_simp⟩) hS ?_
    simp only [Act.put, List.getElem_toArray, List.getElem_cons_succ, List.getElem_cons_zero, List.setIfInBounds_toArray, List.set_cons_zero, List.set_cons_succ]
    refine D_take [9, 10, 11, 12, 13, 14, 15] (i := 8) (v := .pointer (some ⟨g, 0, none⟩)) rfl rfl (by kernel_rfl) (by kernel_rfl) (by kernel_rfl) (by kernel_rfl) (by kernel_rfl) (fun _ _ _ h => h) (Or.inl ⟨by rfl, fun W' hw => by go_simp⟩) hS ?_
    simp only [Act.put, List.getElem_toArray, List.getElem_cons_succ, List.getElem_cons_zero, List.setIfInBounds_toArray, List.set_cons_zero, List.set_cons_succ]
    refine D_take [10, 11, 12, 13, 14, 15] (i := 9) (v := .pointer (some ⟨g, 0, none⟩)) rfl rfl (by kernel_rfl) (by kernel_rfl) (by kernel_rfl) (by kernel_rfl) (by kernel_rfl) (fun _ _ _ h => h) (Or.inl ⟨by rfl, fun W' hw => by go_simp⟩) hS ?_
    simp only [Act.put, List.getElem_toArray, List.getElem_cons_succ, List.getElem_cons_zero, List.setIfInBounds_toArray, List.set_cons_zero, List.set_cons_succ]
    refine D_take [11, 12, 13, 14, 15] (i := 10) (v := .pointer (some ⟨g, 13, none⟩)) rfl rfl (by kernel_rfl) (by kernel_rfl) (by kernel_rfl) (by kernel_rfl) (by kernel_rfl) (fun _ _ _ h => h) (Or.inl ⟨by rfl, fun W' hw => by go_simp⟩) hS ?_
    simp only [Act.put, List.getElem_toArray, List.getElem_cons_succ, List.getElem_cons_zero, List.setIfInBounds_toArray, List.set_cons_zero, List.set_cons_succ]
    refine D_take [12, 13, 14, 15] (i := 11) (v := .int .i64 c.tg) rfl rfl (by kernel_rfl) (by kernel_rfl) (by kernel_rfl) (by kernel_rfl) (by kernel_rfl) (fun _ _ _ h => h) (Or.inl ⟨by rfl, fun W' hw => by have k1 : W'.cell? ⟨g, 13, none⟩ = some (.int .i64 c.tg) := (HX.out W' hw).cell 13; go_simp⟩) hS ?_
    simp only [Act.put, List.getElem_toArray, List.getElem_cons_succ, List.getElem_cons_zero, List.setIfInBounds_toArray, List.set_cons_zero, List.set_cons_succ]
    refine L_one (j := 12) (by kernel_rfl) rfl (by rfl) ?_
    simp only [Act.put, List.getElem_toArray, List.getElem_cons_succ, List.getElem_cons_zero, List.setIfInBounds_toArray, List.set_cons_zero, List.set_cons_succ]
    refine wp_called (by go_simp) (HNX.out _ hS) ?_
    rintro e W12 ⟨rfl, b⟩
    have hS : Below W.heap.size W W12 := hS.trans (b.mono hS.size)
    clear b
    refine ⟨_, rfl, hS, ?_⟩
    simp only [Act.put, List.getElem_toArray, List.getElem_cons_succ, List.getElem_cons_zero, List.setIfInBounds_toArray, List.set_cons_zero, List.set_cons_succ]
    refine D_take [14, 15] (i := 13) (v := .pointer (some ⟨gS, i * 11, none⟩)) rfl rfl (by kernel_rfl) (by kernel_rfl) (by kernel_rfl) (by kernel_rfl) (by kernel_rfl) (fun _ _ _ h => h) (Or.inl ⟨by rfl, fun W' hw => by go_simp⟩) hS ?_
    simp only [Act.put, List.getElem_toArray, List.getElem_cons_succ, List.getElem_cons_zero, List.setIfInBounds_toArray, List.set_cons_zero, List.set_cons_succ]
    refine D_take [15] (i := 14) (v := .agg s.cells.toArray) rfl rfl (by kernel_rfl) (by kernel_rfl) (by kernel_rfl) (by kernel_rfl) (by kernel_rfl) (fun _ _ _ h => h) (yieldsIf_load_mid (by rfl) 66 (.tmp 31) rfl gS (i * 11) rfl s.cells _ (fun W' hw => HRG.out W' hw) Try.underlying66 rfl (by kernel_rfl)) hS ?_
    simp only [Act.put, List.getElem_toArray, List.getElem_cons_succ, List.getElem_cons_zero, List.setIfInBounds_toArray, List.set_cons_zero, List.set_cons_succ]
    refine L_last (by kernel_rfl) rfl (by rfl) (by kernel_rfl) ?_
    simp only [Act.put, List.getElem_toArray, List.getElem_cons_succ, List.getElem_cons_zero, List.setIfInBounds_toArray, List.set_cons_zero, List.set_cons_succ]
    refine wp_called (by go_simp) (HBR.out _ hS) ?_
    rintro e w2 ⟨rfl, b2, c', k', n', v'⟩
    refine ⟨_, rfl, NoPanic.normal ?_⟩
    have HE : Hid (Below base W w2 ∧ Blk w2 g 36 c'.cs ∧ c'.N w2 base [] ∧ c'.v = bringV c.v s.v) := Lib.hid ⟨(hS.mono HK.out.2.2.1).trans b2, k', n', v'⟩
    clear n' v' b2 hS
    have KP : Blk w2 g 36 #[.int .i64 c'.id, .int .i64 c'.vw.size, .int .i64 c'.obj, .int .i64 c'.seq, .slice c'.S c'.sn.length c'.cs', .bool c'.vw.on, .bool c'.vw.good, .slice c'.vw.M c'.vw.row.length c'.vw.cm, .string (strOf c'.vw.par), .int .i64 c'.vw.ps, .int .i64 c'.vw.ov, .int .i64 c'.ow, .int .i64 c'.it, .int .i64 c'.tg] := k'
    go_wp2_with (first
      | (have _h := KP; refine wpList_setq rfl 3 (.tmp 55) (.const (.int .i64 0)) rfl g 12 36 _ (.int .i64 0) rfl rfl KP (by simp) (by kernel_rfl) rfl ?_; clear _h KP; intro w8 K8 o8 s8)
      | (have _h := K8; refine wpList_setq rfl 3 (.tmp 57) (.const (.int .i64 0)) rfl g 13 36 _ (.int .i64 0) rfl rfl K8 (by simp) (by kernel_rfl) rfl ?_; clear _h K8; intro w9 K9 o9 s9))
    go_ret
    have o99 := o8.trans o9 (fun x h => .inl h)
    exact ⟨Frm.of (HE.out.1.trans (o99.below (fun x hx => by simp at hx; have := HK.out.2.2.2.1; omega) (Nat.le_trans HK.out.2.2.1 HE.out.1.size))), .inr ⟨rfl, { c' with it := 0, tg := 0 }, K9, idle_N HE.out.2.1 HE.out.2.2.1 o99, .inr (.inl ⟨HIT.out, i, s.v, HS9.out.1, HS9.out.2.1, by rw [show ({ c' with it := 0, tg := 0 } : HA).v = idle c'.v from rfl, HE.out.2.2.2]⟩)⟩⟩
  have e2 : (c.it == 2) = false := beq_eq_false_iff_ne.2 i2
  by_cases i3 : c.it = 3
  · as_aux_lemma =>
    have HIT := Lib.hid i3
    rw [i3] at q12
    clear i1 i2 i3
    obtain ⟨i, sv, hix, hsv⟩ := num_back HK.out.2.2.2.2.2.1 (by have e : c.v.it = c.it := rfl; rw [e, HIT.out]; simp)
    have hix : idxN c.v c.tg = i := hix
    obtain ⟨s, hs, hss⟩ : ∃ s : SA, c.sn[i]? = some s ∧ s.v = sv := by
      have h : (c.sn.map SA.v)[i]? = some sv := hsv
      rw [List.getElem?_map] at h
      cases h9 : c.sn[i]? with
      | none => rw [h9] at h; cases h
      | some s => rw [h9] at h; injection h with h; exact ⟨s, rfl, h⟩
    subst hss
    obtain ⟨gS, hSg, hgS, hgW, hcl⟩ := sn_at HK.out.2.1 hs
    have HS9 := Lib.hid (And.intro hix (And.intro hsv (And.intro hs (And.intro hSg (And.intro hgW hcl)))))
    have hlt : i < c.sn.length := (List.getElem?_eq_some_iff.1 hs).1
    rw [hix] at HNM
    clear hix hsv hs hSg hgW hcl hgS q13
    have HRM : Hid (∀ W', Below W.heap.size W W' → Calls Try.prog 130 #[.pointer (some ⟨g, 0, none⟩), .int .i64 (i : Int)] W' (RemTo W' base g c i s)) := Lib.hid fun W' hW' =>
      remove_any W' base g i c s (Nat.le_trans HK.out.2.2.1 hW'.size) HK.out.2.2.2.1 (HK.out.1.of (hW'.block _ HK.out.1.lt)) (HK.out.2.1.below hW') HK.out.2.2.2.2.1 HK.out.2.2.2.2.2.2.1 HS9.out.2.2.1 HK.out.2.2.2.2.2.2.2
    go_upto_region 8 with (fail)
    clear q12
    have hS : Below W.heap.size W W.drew := (Below.refl _ W).drew
    refine any_beginL (fun W' => Below W.heap.size W W') 9 (by kernel_rfl) ?_
    refine D_take [9] (i := 0) (v := .pointer (some ⟨g, 0, none⟩)) rfl rfl (by kernel_rfl) (by kernel_rfl) (by kernel_rfl) (by kernel_rfl) (by kernel_rfl) (fun _ _ _ h => h) (Or.inl ⟨by rfl, fun W' hw => by go_simp⟩) hS ?_
    simp only [Act.put, List.getElem_toArray, List.getElem_cons_succ, List.getElem_cons_zero, List.setIfInBounds_toArray, List.set_cons_zero, List.set_cons_succ]
    refine D_take [2, 3, 8, 9] (i := 1) (v := .pointer (some ⟨g, 0, none⟩)) rfl rfl (by kernel_rfl) (by kernel_rfl) (by kernel_rfl) (by kernel_rfl) (by kernel_rfl) (fun _ _ _ h => h) (Or.inl ⟨by rfl, fun W' hw => by go_simp⟩) hS ?_
    simp only [Act.put, List.getElem_toArray, List.getElem_cons_succ, List.getElem_cons_zero, List.setIfInBounds_toArray, List.set_cons_zero, List.set_cons_succ]
    refine D_take [3, 8, 9] (i := 2) (v := .pointer (some ⟨g, 0, none⟩)) rfl rfl (by kernel_rfl) (by kernel_rfl) (by kernel_rfl) (by kernel_rfl) (by kernel_rfl) (fun _ _ _ h => h) (Or.inl ⟨by rfl, fun W' hw => by go_simp⟩) hS ?_
    simp only [Act.put, List.getElem_toArray, List.getElem_cons_succ, List.getElem_cons_zero, List.setIfInBounds_toArray, List.set_cons_zero, List.set_cons_succ]
    refine D_take [8, 9] (i := 3) (v := .agg #[.int .i64 c.id, .int .i64 c.vw.size, .int .i64 c.obj, .int .i64 c.seq, .slice c.S c.sn.length c.cs', .bool c.vw.on, .bool c.vw.good, .slice c.vw.M c.vw.row.length c.vw.cm, .string (strOf c.vw.par), .int .i64 c.vw.ps, .int .i64 c.vw.ov, .int .i64 c.ow, .int .i64 c.it, .int .i64 c.tg]) rfl rfl (by kernel_rfl) (by kernel_rfl) (by kernel_rfl) (by kernel_rfl) (by kernel_rfl) (fun _ _ _ h => h) (Or.inl ⟨by rfl, fun W' hw => by have k0 : W'.cell? ⟨g, 0, none⟩ = some (.int .i64 c.id) := (HB1.out W' hw).cell 0; have k1 : W'.cell? ⟨g, 1, none⟩ = some (.int .i64 c.vw.size) := (HB1.out W' hw).cell 1; have k2 : W'.cell? ⟨g, 2, none⟩ = some (.int .i64 c.obj) := (HB1.out W' hw).cell 2; have k3 : W'.cell? ⟨g, 3, none⟩ = some (.int .i64 c.seq) := (HB1.out W' hw).cell 3; have k4 : W'.cell? ⟨g, 4, none⟩ = some (.slice c.S c.sn.length c.cs') := (HB1.out W' hw).cell 4; have k5 : W'.cell? ⟨g, 5, none⟩ = some (.bool c.vw.on) := (HB1.out W' hw).cell 5; have k6 : W'.cell? ⟨g, 6, none⟩ = some (.bool c.vw.good) := (HB1.out W' hw).cell 6; have k7 : W'.cell? ⟨g, 7, none⟩ = some (.slice c.vw.M c.vw.row.length c.vw.cm) := (HB1.out W' hw).cell 7; have k8 : W'.cell? ⟨g, 8, none⟩ = some (.string (strOf c.vw.par)) := (HB1.out W' hw).cell 8; have k9 : W'.cell? ⟨g, 9, none⟩ = some (.int .i64 c.vw.ps) := (HB1.out W' hw).cell 9; have k10 : W'.cell? ⟨g, 10, none⟩ = some (.int .i64 c.vw.ov) := (HB1.out W' hw).cell 10; have k11 : W'.cell? ⟨g, 11, none⟩ = some (.int .i64 c.ow) := (HB1.out W' hw).cell 11; have k12 : W'.cell? ⟨g, 12, none⟩ = some (.int .i64 c.it) := (HB1.out W' hw).cell 12; have k13 : W'.cell? ⟨g, 13, none⟩ = some (.int .i64 c.tg) := (HB1.out W' hw).cell 13; go_simp⟩) hS ?_
    simp only [Act.put, List.getElem_toArray, List.getElem_cons_succ, List.getElem_cons_zero, List.setIfInBounds_toArray, List.set_cons_zero, List.set_cons_succ]
    refine D_take [5, 6, 7, 8, 9] (i := 4) (v := .pointer (some ⟨g, 0, none⟩)) rfl rfl (by kernel_rfl) (by kernel_rfl) (by kernel_rfl) (by kernel_rfl) (by kernel_rfl) (fun _ _ _ h => h) (Or.inl ⟨by rfl, fun W' hw => by go_simp⟩) hS ?_
    simp only [Act.put, List.getElem_toArray, List.getElem_cons_succ, List.getElem_cons_zero, List.setIfInBounds_toArray, List.set_cons_zero, List.set_cons_succ]
    refine D_take [6, 7, 8, 9] (i := 5) (v := .pointer (some ⟨g, 0, none⟩)) rfl rfl (by kernel_rfl) (by kernel_rfl) (by kernel_rfl) (by kernel_rfl) (by kernel_rfl) (fun _ _ _ h => h) (Or.inl ⟨by rfl, fun W' hw => by go_simp⟩) hS ?_
    simp only [Act.put, List.getElem_toArray, List.getElem_cons_succ, List.getElem_cons_zero, List.setIfInBounds_toArray, List.set_cons_zero, List.set_cons_succ]
    refine D_take [7, 8, 9] (i := 6) (v := .pointer (some ⟨g, 13, none⟩)) rfl rfl (by kernel_rfl) (by kernel_rfl) (by kernel_rfl) (by kernel_rfl) (by kernel_rfl) (fun _ _ _ h => h) (Or.inl ⟨by rfl, fun W' hw => by go_simp⟩) hS ?_
    simp only [Act.put, List.getElem_toArray, List.getElem_cons_succ, List.getElem_cons_zero, List.setIfInBounds_toArray, List.set_cons_zero, List.set_cons_succ]
    refine D_take [8, 9] (i := 7) (v := .int .i64 c.tg) rfl rfl (by kernel_rfl) (by kernel_rfl) (by kernel_rfl) (by kernel_rfl) (by kernel_rfl) (fun _ _ _ h => h) (Or.inl ⟨by rfl, fun W' hw => by have k1 : W'.cell? ⟨g, 13, none⟩ = some (.int .i64 c.tg) := (HB1.out W' hw).cell 13; go_simp⟩) hS ?_
    simp only [Act.put, List.getElem_toArray, List.getElem_cons_succ, List.getElem_cons_zero, List.setIfInBounds_toArray, List.set_cons_zero, List.set_cons_succ]
    refine L_one (j := 8) (by kernel_rfl) rfl (by rfl) ?_
    simp only [Act.put, List.getElem_toArray, List.getElem_cons_succ, List.getElem_cons_zero, List.setIfInBounds_toArray, List.set_cons_zero, List.set_cons_succ]
    refine wp_called (by go_simp) (HNM.out _ hS) ?_
    rintro e W12 ⟨rfl, b⟩
    have hS : Below W.heap.size W W12 := hS.trans (b.mono hS.size)
    clear b
    refine ⟨_, rfl, hS, ?_⟩
    simp only [Act.put, List.getElem_toArray, List.getElem_cons_succ, List.getElem_cons_zero, List.setIfInBounds_toArray, List.set_cons_zero, List.set_cons_succ]
    refine L_last (by kernel_rfl) rfl (by rfl) (by kernel_rfl) ?_
    simp only [Act.put, List.getElem_toArray, List.getElem_cons_succ, List.getElem_cons_zero, List.setIfInBounds_toArray, List.set_cons_zero, List.set_cons_succ]
    refine wp_called (by go_simp) (HRM.out _ hS) ?_
    rintro e w2 ⟨rfl, b2, c', k', n', v'⟩
    refine ⟨_, rfl, NoPanic.normal ?_⟩
    have HE : Hid (Below base W w2 ∧ Blk w2 g 36 c'.cs ∧ c'.N w2 base [] ∧ c'.v = remV c.v i s.v) := Lib.hid ⟨(hS.mono HK.out.2.2.1).trans b2, k', n', v'⟩
    clear n' v' b2 hS
    have KP : Blk w2 g 36 #[.int .i64 c'.id, .int .i64 c'.vw.size, .int .i64 c'.obj, .int .i64 c'.seq, .slice c'.S c'.sn.length c'.cs', .bool c'.vw.on, .bool c'.vw.good, .slice c'.vw.M c'.vw.row.length c'.vw.cm, .string (strOf c'.vw.par), .int .i64 c'.vw.ps, .int .i64 c'.vw.ov, .int .i64 c'.ow, .int .i64 c'.it, .int .i64 c'.tg] := k'
    go_wp2_with (first
      | (have _h := KP; refine wpList_setq rfl 3 (.tmp 55) (.const (.int .i64 0)) rfl g 12 36 _ (.int .i64 0) rfl rfl KP (by simp) (by kernel_rfl) rfl ?_; clear _h KP; intro w8 K8 o8 s8)
      | (have _h := K8; refine wpList_setq rfl 3 (.tmp 57) (.const (.int .i64 0)) rfl g 13 36 _ (.int .i64 0) rfl rfl K8 (by simp) (by kernel_rfl) rfl ?_; clear _h K8; intro w9 K9 o9 s9))
    go_ret
    have o99 := o8.trans o9 (fun x h => .inl h)
    exact ⟨Frm.of (HE.out.1.trans (o99.below (fun x hx => by simp at hx; have := HK.out.2.2.2.1; omega) (Nat.le_trans HK.out.2.2.1 HE.out.1.size))), .inr ⟨rfl, { c' with it := 0, tg := 0 }, K9, idle_N HE.out.2.1 HE.out.2.2.1 o99, .inr (.inr (.inl ⟨HIT.out, i, s.v, HS9.out.1, HS9.out.2.1, by rw [show ({ c' with it := 0, tg := 0 } : HA).v = idle c'.v from rfl, HE.out.2.2.2]⟩))⟩⟩
  have e3 : (c.it == 3) = false := beq_eq_false_iff_ne.2 i3
  by_cases i4 : c.it = 4
  · as_aux_lemma =>
    have HIT := Lib.hid i4
    rw [i4] at q12
    clear i1 i2 i3 i4
    have KP : Blk W g 36 #[.int .i64 c.id, .int .i64 c.vw.size, .int .i64 c.obj, .int .i64 c.seq, .slice c.S c.sn.length c.cs', .bool c.vw.on, .bool c.vw.good, .slice c.vw.M c.vw.row.length c.vw.cm, .string (strOf c.vw.par), .int .i64 c.vw.ps, .int .i64 c.vw.ov, .int .i64 c.ow, .int .i64 c.it, .int .i64 c.tg] := HB1.out W (Below.refl _ _)
    have hzl : ∀ w, (zeroValue 34).run Try.prog w = .ok (.agg #[.string ⟨#[]⟩, .int .i64 0, .int .i64 0]) w := fun w => by kernel_rfl
    go_wp2_with (first
      | (have _h := KP; refine wpList_set3 rfl 34 (.tmp 51) (.tmp 49) rfl g 8 36 _ (.string ⟨#[]⟩) (.int .i64 0) (.int .i64 0) rfl rfl KP (by simp) (by kernel_rfl) rfl rfl rfl ?_; clear _h KP; intro w7 K7 o7 s7)
      | (have _h := K7; refine wpList_setq rfl 3 (.tmp 55) (.const (.int .i64 0)) rfl g 12 36 _ (.int .i64 0) rfl rfl K7 (by simp) (by kernel_rfl) rfl ?_; clear _h K7; intro w8 K8 o8 s8)
      | (have _h := K8; refine wpList_setq rfl 3 (.tmp 57) (.const (.int .i64 0)) rfl g 13 36 _ (.int .i64 0) rfl rfl K8 (by simp) (by kernel_rfl) rfl ?_; clear _h K8; intro w9 K9 o9 s9))
    go_ret
    have o99 := (o7.trans o8 (fun x h => .inl h)).trans o9 (fun x h => .inl h)
    have he : strOf [] = (⟨#[]⟩ : ByteArray) := rfl
    have h0 : I64 0 := by unfold I64; omega
    have hn := HK.out.2.1.stay HK.out.1 o99
    exact ⟨Frm.of (o99.below (fun x hx => by simp at hx; have := HK.out.2.2.2.1; omega) HK.out.2.2.1), .inr ⟨rfl, { c with vw := { c.vw with par := [], ps := 0, ov := 0 }, it := 0, tg := 0 }, K9, ⟨⟨hn.vw.own, hn.vw.far, hn.vw.ok, fun b hb => (by cases hb), hn.vw.size, h0, h0, by simp⟩, hn.sn, hn.own, hn.id, hn.obj, hn.seq, hn.ow, h0, h0⟩, .inr (.inr (.inr ⟨HIT.out, rfl⟩))⟩⟩
  have e4 : (c.it == 4) = false := beq_eq_false_iff_ne.2 i4
  have HC := Lib.hid (And.intro i1 (And.intro i2 (And.intro i3 i4)))
  have HBN : Hid (0 ≤ c.it ∧ c.it ≤ 5) := Lib.hid (by
    have h8 := ((B_iff c.v).1 HK.out.2.2.2.2.2.1).2.2.2.2.2.2.2
    rw [itB_iff] at h8
    have e : c.v.it = c.it := rfl
    omega)
  clear i1 i2 i3 i4
  go_wp2
  go_ret
  exact ⟨Frm.of (Below.refl _ _), .inl ⟨13, rfl, by omega, by have e : c.v.it = c.it := rfl; obtain ⟨h1, h2, h3, h4⟩ := HC.out; have := HBN.out; omega, rfl⟩⟩
end Go.Proofs.Ytiimanoloedbeaa

/-
  What Finish answers. Conditions: the head reads as it is said to, and is small.
-/
namespace Go.Proofs.Ytiimanoloedbeaa
open Go.RowKit Go.BigFrame
set_option linter.unusedSimpArgs false
set_option linter.unusedVariables false
set_option maxRecDepth 100000
theorem rows_few {c : HA} (hB : c.v.B = true) : c.vw.row.length ≤ 1000000 ∧ ∀ x ∈ c.sn, x.vw.row.length ≤ 1000000 := by
  have hm : ∀ (m : MkV) (n : Int), m.B n = true → m.row.length ≤ 256 := fun m n h => by
    rcases (mkB_iff m n).1 h with ⟨_, h, _⟩ | ⟨_, h, _⟩
    · exact h.1
    · rw [h]; simp
  have h4 := (vw_iff _ _ _ _).1 ((B_iff c.v).1 hB).2.2.2.1
  refine ⟨?_, fun x hx => ?_⟩
  · have : c.vw.row.length ≤ 256 := hm _ _ h4.2.2.1
    omega
  · obtain ⟨i, hi⟩ := List.getElem?_of_mem hx
    have hv : c.v.sn[i]? = some x.v := by show (c.sn.map SA.v)[i]? = _; rw [List.getElem?_map, hi]; rfl
    have h5 := (vw_iff _ _ _ _).1 (atSn hB hv).2.vw
    have : x.vw.row.length ≤ 256 := hm _ _ h5.2.2.1
    omega
set_option maxHeartbeats 16000000 in
theorem finish_any (h : HA) (w : World)  (hR : h.R SA.cells w) (hS : h.Sm) : Calls Try.prog 78 #[.agg h.cs] w (AnsTo w h.v (fun k => FinE h.v k) (fun v => FinO h.v v)) := by
  obtain ⟨W1, hW1⟩ : ∃ W, W = (w.alloc (.cells #[.int .i64 h.id, .int .i64 h.vw.size, .int .i64 h.obj, .int .i64 h.seq, .slice h.S h.sn.length h.cs', .bool h.vw.on, .bool h.vw.good, .slice h.vw.M h.vw.row.length h.vw.cm, .string (strOf h.vw.par), .int .i64 h.vw.ps, .int .i64 h.vw.ov, .int .i64 h.ow, .int .i64 h.it, .int .i64 h.tg] 36)).alloc (.cells #[.int .i64 0, .int .i64 0, .int .i64 0, .int .i64 0, .slice none 0 0, .bool false, .bool false, .slice none 0 0, .string ⟨#[]⟩, .int .i64 0, .int .i64 0, .int .i64 0, .int .i64 0, .int .i64 0] 36) := ⟨_, rfl⟩
  have h1 : Below w.heap.size w W1 ∧ W1.heap.size = w.heap.size + 2 ∧ Blk W1 w.heap.size 36 #[.int .i64 h.id, .int .i64 h.vw.size, .int .i64 h.obj, .int .i64 h.seq, .slice h.S h.sn.length h.cs', .bool h.vw.on, .bool h.vw.good, .slice h.vw.M h.vw.row.length h.vw.cm, .string (strOf h.vw.par), .int .i64 h.vw.ps, .int .i64 h.vw.ov, .int .i64 h.ow, .int .i64 h.it, .int .i64 h.tg] ∧ Blk W1 (w.heap.size + 1) 36 #[.int .i64 0, .int .i64 0, .int .i64 0, .int .i64 0, .slice none 0 0, .bool false, .bool false, .slice none 0 0, .string ⟨#[]⟩, .int .i64 0, .int .i64 0, .int .i64 0, .int .i64 0, .int .i64 0] := by
    rw [hW1]
    refine ⟨((below_alloc w _).alloc (by simp <;> omega) _), by simp, ((Blk.new w _ _).alloc _), ?_⟩
    have := Blk.new (w.alloc (.cells #[.int .i64 h.id, .int .i64 h.vw.size, .int .i64 h.obj, .int .i64 h.seq, .slice h.S h.sn.length h.cs', .bool h.vw.on, .bool h.vw.good, .slice h.vw.M h.vw.row.length h.vw.cm, .string (strOf h.vw.par), .int .i64 h.vw.ps, .int .i64 h.vw.ov, .int .i64 h.ow, .int .i64 h.it, .int .i64 h.tg] 36)) 36 #[.int .i64 0, .int .i64 0, .int .i64 0, .int .i64 0, .slice none 0 0, .bool false, .bool false, .slice none 0 0, .string ⟨#[]⟩, .int .i64 0, .int .i64 0, .int .i64 0, .int .i64 0, .int .i64 0]
    simpa using this
  have HCH := Lib.hid (change_any h W1 (hR.since h1.1) hS 128 (fun args w => by kernel_rfl) #[] [] (fun k hk => by cases hk) (fun k _ => FinE h.v k) (fun v _ => FinO h.v v) (fun _ _ _ _ p => p) (fun _ _ _ _ p => p) (fun W base g c hb1 hb2 hbw hg hk hN hD hcv hB => by
    have hBc : c.v.B = true := by rw [hcv]; exact hB
    rw [← hcv]; exact fin1_any W base g c hb2 hg hk hN hD hBc (few_small hcv hS) (rows_few hBc)))
  have HW1 := Lib.hid hW1
  have H1 := Lib.hid h1
  clear hW1 h1 hR hS 
  unfold HA.cs at *
  have hz := head_zero
  go_enter Try.func78, Try.ntmps78
  go_upto_region 1 with (fail)
  rw [← HW1.out]
  clear HW1
  have K1 := H1.out.2.2.1
  go_wp2_with (have _h := K1; refine wpList_loadq rfl 36 (.tmp 1) rfl (w.heap.size) [.int .i64 h.id, .int .i64 h.vw.size, .int .i64 h.obj, .int .i64 h.seq, .slice h.S h.sn.length h.cs', .bool h.vw.on, .bool h.vw.good, .slice h.vw.M h.vw.row.length h.vw.cm, .string (strOf h.vw.par), .int .i64 h.vw.ps, .int .i64 h.vw.ov, .int .i64 h.ow, .int .i64 h.it, .int .i64 h.tg] _ rfl K1 Try.underlying36 rfl (by kernel_rfl) ?_; clear _h K1)
  refine HCH.out.mono ?_
  rintro e w2 ⟨f2, h2⟩
  have b2 : Below W1.heap.size W1 w2 := f2.below
  have K2 : Blk w2 (w.heap.size + 1) 36 #[.int .i64 0, .int .i64 0, .int .i64 0, .int .i64 0, .slice none 0 0, .bool false, .bool false, .slice none 0 0, .string ⟨#[]⟩, .int .i64 0, .int .i64 0, .int .i64 0, .int .i64 0, .int .i64 0] := H1.out.2.2.2.of (b2.block _ H1.out.2.2.2.lt)
  have HB2 : Hid (Below w.heap.size w w2) := Lib.hid (H1.out.1.trans (b2.mono H1.out.1.size))
  have hz2 := HB2.out.size
  have HR2 := Lib.hid K2
  clear b2 f2 HCH
  rcases h2 with ⟨hB, rfl⟩ | ⟨hB, k, rfl, hk0, hpe⟩ | ⟨hB, q, rfl, hqN, hpo⟩
  · have HH := Lib.hid hB
    clear hB
    simp only [errV, Z14]
    go_wp2_with (have _h := K2; refine wpList_storeq rfl 36 (.tmp 2) (.tmp 6) rfl (w.heap.size + 1) _ [.int .i64 0, .int .i64 0, .int .i64 0, .int .i64 0, .slice none 0 0, .bool false, .bool false, .slice none 0 0, .string ⟨#[]⟩, .int .i64 0, .int .i64 0, .int .i64 0, .int .i64 0, .int .i64 0] rfl rfl K2 (by simp) (by kernel_rfl) (one14 _ _ _ _ _ _ _ _ _ _ _ _ _ _ _ _ _ _) ?_; clear _h K2; intro w9 K9 o9 s9)
    refine bodyPost_ret (results_cell_tmp9 rfl _ _ (w.heap.size + 1) 36 _ (0, 0) _ _ rfl rfl K9 Try.underlying36 rfl (by kernel_rfl)) rfl ?_
    exact ⟨HB2.out.trans (o9.below (fun x hx => by simp at hx; omega) hz2), .inl ⟨HH.out, rfl⟩⟩
  · obtain ⟨k, rfl⟩ : ∃ k', k = k' + 1 := ⟨k - 1, by omega⟩
    have HH := Lib.hid (And.intro hB hpe)
    clear hB hpe hk0
    simp only [errV, Z14]
    go_wp2_with (have _h := K2; refine wpList_storeq rfl 36 (.tmp 2) (.tmp 6) rfl (w.heap.size + 1) _ [.int .i64 0, .int .i64 0, .int .i64 0, .int .i64 0, .slice none 0 0, .bool false, .bool false, .slice none 0 0, .string ⟨#[]⟩, .int .i64 0, .int .i64 0, .int .i64 0, .int .i64 0, .int .i64 0] rfl rfl K2 (by simp) (by kernel_rfl) (one14 _ _ _ _ _ _ _ _ _ _ _ _ _ _ _ _ _ _) ?_; clear _h K2; intro w9 K9 o9 s9)
    refine bodyPost_ret (results_cell_tmp9 rfl _ _ (w.heap.size + 1) 36 _ (0, 0) _ _ rfl rfl K9 Try.underlying36 rfl (by kernel_rfl)) rfl ?_
    exact ⟨HB2.out.trans (o9.below (fun x hx => by simp at hx; omega) hz2), .inr (.inl ⟨HH.out.1, k + 1, rfl, by omega, HH.out.2⟩)⟩
  · have HH := Lib.hid (And.intro hB (And.intro hqN hpo))
    clear hB hqN hpo
    unfold HA.cs
    go_wp2_with (have _h := K2; refine wpList_storeq rfl 36 (.tmp 2) (.tmp 6) rfl (w.heap.size + 1) _ [.int .i64 q.id, .int .i64 q.vw.size, .int .i64 q.obj, .int .i64 q.seq, .slice q.S q.sn.length q.cs', .bool q.vw.on, .bool q.vw.good, .slice q.vw.M q.vw.row.length q.vw.cm, .string (strOf q.vw.par), .int .i64 q.vw.ps, .int .i64 q.vw.ov, .int .i64 q.ow, .int .i64 q.it, .int .i64 q.tg] rfl rfl K2 (by simp) (by kernel_rfl) (one14 _ _ _ _ _ _ _ _ _ _ _ _ _ _ _ _ _ _) ?_; clear _h K2; intro w9 K9 o9 s9)
    refine bodyPost_ret (results_cell_tmp9 rfl _ _ (w.heap.size + 1) 36 _ (0, 0) _ _ rfl rfl K9 Try.underlying36 rfl (by kernel_rfl)) rfl ?_
    exact ⟨HB2.out.trans (o9.below (fun x hx => by simp at hx; omega) hz2), .inr (.inr ⟨HH.out.1, q, rfl, (HH.out.2.1.stay HR2.out o9).weaken (by have := H1.out.2.1; omega), HH.out.2.2⟩)⟩
end Go.Proofs.Ytiimanoloedbeaa

/-
  What Break answers. Conditions: the head reads as it is said to, and is small.
-/
namespace Go.Proofs.Ytiimanoloedbeaa
open Go.RowKit Go.BigFrame
set_option linter.unusedSimpArgs false
set_option linter.unusedVariables false
set_option maxRecDepth 100000
set_option maxHeartbeats 8000000 in
theorem brk1e_any (W : World) (base g : Nat) (c : HA) (gc : Nat) (x : Int) (hb : base ≤ W.heap.size) (hg : base ≤ g) (k : Blk W g 36 c.cs) (hN : c.N W base []) (hgc : gc < base) (kc : Blk W gc 3 #[.int .i64 x]) :
    Calls Try.prog 112 #[.pointer (some ⟨g, 0, none⟩), .pointer (some ⟨gc, 0, none⟩)] W (DoesTo base [gc] g (fun k w => BrkE c.v k ∧ Blk w gc 3 #[.int .i64 x]) (fun v w => BrkO c.v v ∧ Blk w gc 3 #[.int .i64 c.v.ow]) W) := by
  have HC0 := Lib.hid (And.intro hgc kc)
  have KC := kc
  have K0 : Blk W g 36 #[.int .i64 c.id, .int .i64 c.vw.size, .int .i64 c.obj, .int .i64 c.seq, .slice c.S c.sn.length c.cs', .bool c.vw.on, .bool c.vw.good, .slice c.vw.M c.vw.row.length c.vw.cm, .string (strOf c.vw.par), .int .i64 c.vw.ps, .int .i64 c.vw.ov, .int .i64 c.ow, .int .i64 c.it, .int .i64 c.tg] := k
  have HK := Lib.hid (And.intro k (And.intro hN (And.intro hb hg)))
  have HS : Hid (∀ n, Below base W (W.drewN n)) := Lib.hid fun n => ⟨rfl, rfl, rfl, Nat.le_refl _, fun _ _ => rfl⟩
  clear k hN hb hg hgc kc
  have q11 : W.cell? ⟨g, 11, none⟩ = some (.int .i64 c.ow) := K0.cell 11
  go_enter Try.func112, Try.ntmps112
  by_cases c3 : c.ow = -1
  · have d3 : (c.ow == -1) = true := by simpa using c3
    have HC := Lib.hid c3
    clear c3 KC
    go_wp2
    go_ret
    exact ⟨Frm.of (Below.refl _ _), .inl ⟨6, rfl, by omega, ⟨⟨HC.out, rfl⟩, HC0.out.2⟩⟩⟩
  · have d3 : (c.ow == -1) = false := by simpa using c3
    have HC := Lib.hid c3
    clear c3
    have KP := K0
    clear K0
    go_wp2_with (first
      | (have _h := KC; refine wpList_setq rfl 3 (.tmp 1) (.tmp 14) rfl gc 0 3 _ (.int .i64 c.ow) rfl rfl KC (by simp) (by kernel_rfl) rfl ?_; clear _h KC; intro w8 K8 o8 s8; replace KP := KP.only o8 (by have := HK.out.2.2.2; have := HC0.out.1; simp; omega))
      | (have _h := KP; refine wpList_setq rfl 3 (.tmp 16) (.const (.int .i64 (-1))) rfl g 11 36 _ (.int .i64 (-1)) rfl rfl KP (by simp) (by kernel_rfl) rfl ?_; clear _h KP; intro w9 K9 o9 s9))
    go_ret
    have hgc := HC0.out.1
    have hb := HK.out.2.2.1
    have hg := HK.out.2.2.2
    have f8 : Frm base [gc] W w8 := ⟨o8.os, o8.tape, o8.output, o8.size, fun k hk hn => o8.block k (by omega) hn⟩
    have f9 : Frm base [gc] w8 w9 := Frm.of (o9.below (fun x hx => by simp at hx; omega) (by omega))
    have k8 : Blk w8 g 36 c.cs := HK.out.1.only o8 (by simp; omega)
    exact ⟨f8.trans f9, .inr ⟨rfl, { c with ow := -1 }, K9, (fun h => ⟨h.vw, h.sn, h.own, h.id, h.obj, h.seq, (show I64 (-1) by unfold I64; decide), h.it, h.tg⟩ : ∀ (h : c.N w9 base []), _) ((HK.out.2.1.aside hgc o8).stay k8 o9), ⟨HC.out, rfl⟩, K8.only o9 (by simp; omega)⟩⟩
/-- what Break answers: the head, who owned it, the error -/
def BreakTo (w : World) (v : HdV) (e : Ending) (w' : World) : Prop :=
  Below w.heap.size w w' ∧ ((v.B = false ∧ e = .returned (.tuple #[.agg Z14, .int .i64 0, errV 2])) ∨ (v.B = true ∧ BrkE v 6 ∧ e = .returned (.tuple #[.agg Z14, .int .i64 0, errV 6])) ∨ (v.B = true ∧ ∃ q : HA, e = .returned (.tuple #[.agg q.cs, .int .i64 v.ow, .nilIface]) ∧ q.N w' w.heap.size [] ∧ BrkO v q.v))
theorem results_three {P : Program} {fn : Func} {p q r : Tmp} {ty : TypeId} (h : fn.results = #[.cell p ty, .tmp q, .tmp r]) (tmps : Array Value) (w : World) (g : Nat) (t : TypeId) (cs : Array Value) (fr : Nat × Nat) (d : TypeDesc) (v u : Value)
    (hp : tmps.getD p undef = .pointer (some ⟨g, 0, none⟩)) (hq : tmps.getD q undef = v) (hr : tmps.getD r undef = u) (hg : w.heap[g]? = some (.cells cs t fr))
    (hu : P.underlying ty = some d) (hd : (match d with | .struct _ | .array _ _ => true | _ => false) = true) (hi : (P.info? ty).map (·.size) = some cs.size) :
    (results fn tmps).run P w = .ok (.tuple #[.agg cs, v, u]) w := by
  have hp' : tmps[p]?.getD undef = .pointer (some ⟨g, 0, none⟩) := by simpa using hp
  have hq' : tmps[q]?.getD undef = v := by simpa using hq
  have hr' : tmps[r]?.getD undef = u := by simpa using hr
  simp [results, h, hp', hq', hr', asAddr, run_loadVar_row w g t ty cs fr d hg hu hd hi]
set_option maxHeartbeats 16000000 in
theorem break_any (h : HA) (w : World) (hR : h.R SA.cells w) (hS : h.Sm) : Calls Try.prog 70 #[.agg h.cs] w (BreakTo w h.v) := by
  obtain ⟨W1, hW1⟩ : ∃ W, W = ((w.alloc (.cells #[.int .i64 h.id, .int .i64 h.vw.size, .int .i64 h.obj, .int .i64 h.seq, .slice h.S h.sn.length h.cs', .bool h.vw.on, .bool h.vw.good, .slice h.vw.M h.vw.row.length h.vw.cm, .string (strOf h.vw.par), .int .i64 h.vw.ps, .int .i64 h.vw.ov, .int .i64 h.ow, .int .i64 h.it, .int .i64 h.tg] 36)).alloc (.cells #[.int .i64 0, .int .i64 0, .int .i64 0, .int .i64 0, .slice none 0 0, .bool false, .bool false, .slice none 0 0, .string ⟨#[]⟩, .int .i64 0, .int .i64 0, .int .i64 0, .int .i64 0, .int .i64 0] 36)).alloc (.cells #[.int .i64 0] 3) := ⟨_, rfl⟩
  have h1 : Below w.heap.size w W1 ∧ W1.heap.size = w.heap.size + 3 ∧ Blk W1 w.heap.size 36 #[.int .i64 h.id, .int .i64 h.vw.size, .int .i64 h.obj, .int .i64 h.seq, .slice h.S h.sn.length h.cs', .bool h.vw.on, .bool h.vw.good, .slice h.vw.M h.vw.row.length h.vw.cm, .string (strOf h.vw.par), .int .i64 h.vw.ps, .int .i64 h.vw.ov, .int .i64 h.ow, .int .i64 h.it, .int .i64 h.tg] ∧ Blk W1 (w.heap.size + 1) 36 #[.int .i64 0, .int .i64 0, .int .i64 0, .int .i64 0, .slice none 0 0, .bool false, .bool false, .slice none 0 0, .string ⟨#[]⟩, .int .i64 0, .int .i64 0, .int .i64 0, .int .i64 0, .int .i64 0] ∧ Blk W1 (w.heap.size + 2) 3 #[.int .i64 0] := by
    rw [hW1]
    refine ⟨((below_alloc w _).alloc (by simp) _).alloc (by simp <;> omega) _, by simp, ((Blk.new w _ _).alloc _).alloc _, (blk_two _ _ _ _).alloc _, ?_⟩
    have := Blk.new ((w.alloc (.cells #[.int .i64 h.id, .int .i64 h.vw.size, .int .i64 h.obj, .int .i64 h.seq, .slice h.S h.sn.length h.cs', .bool h.vw.on, .bool h.vw.good, .slice h.vw.M h.vw.row.length h.vw.cm, .string (strOf h.vw.par), .int .i64 h.vw.ps, .int .i64 h.vw.ov, .int .i64 h.ow, .int .i64 h.it, .int .i64 h.tg] 36)).alloc (.cells #[.int .i64 0, .int .i64 0, .int .i64 0, .int .i64 0, .slice none 0 0, .bool false, .bool false, .slice none 0 0, .string ⟨#[]⟩, .int .i64 0, .int .i64 0, .int .i64 0, .int .i64 0, .int .i64 0] 36)) 3 #[.int .i64 0]
    simpa using this
  have HCH : Hid (Calls Try.prog 107 #[.agg h.cs, .func (.func 112) #[] #[.pointer (some ⟨w.heap.size + 2, 0, none⟩)]] W1 fun e w' => Frm W1.heap.size [w.heap.size + 2] W1 w' ∧ ((h.v.B = false ∧ e = .returned (.tuple #[.agg Z14, errV 2]) ∧ Blk w' (w.heap.size + 2) 3 #[.int .i64 0]) ∨ (h.v.B = true ∧ BrkE h.v 6 ∧ e = .returned (.tuple #[.agg Z14, errV 6]) ∧ Blk w' (w.heap.size + 2) 3 #[.int .i64 0]) ∨ (h.v.B = true ∧ ∃ q : HA, e = .returned (.tuple #[.agg q.cs, .nilIface]) ∧ q.N w' W1.heap.size [] ∧ BrkO h.v q.v ∧ Blk w' (w.heap.size + 2) 3 #[.int .i64 h.v.ow]))) := Lib.hid (by
    cases hB : h.v.B with
    | false =>
      refine (change_any h W1 (hR.since h1.1) hS 112 (fun args w => by kernel_rfl) #[.pointer (some ⟨w.heap.size + 2, 0, none⟩)] [] (fun k hk => by cases hk) (fun _ _ => False) (fun _ _ => False) (fun _ _ _ _ p => p) (fun _ _ _ _ p => p) (fun W base g c hb1 hb2 hbw hg hk hN hD hcv hB' => by rw [hB] at hB'; cases hB')).mono fun e w' ⟨f, q⟩ => ?_
      have fb := f.below
      refine ⟨Frm.of fb, .inl ⟨rfl, ?_, h1.2.2.2.2.of (fb.block _ h1.2.2.2.2.lt)⟩⟩
      rcases q with ⟨_, q⟩ | ⟨q, _⟩ | ⟨q, _⟩
      · exact q
      · rw [hB] at q; cases q
      · rw [hB] at q; cases q
    | true =>
      refine (change_any h W1 (hR.since h1.1) hS 112 (fun args w => by kernel_rfl) #[.pointer (some ⟨w.heap.size + 2, 0, none⟩)] [w.heap.size + 2] (fun k hk => by simp at hk; have := h1.2.1; omega) (fun k w' => BrkE h.v k ∧ Blk w' (w.heap.size + 2) 3 #[.int .i64 0]) (fun v w' => BrkO h.v v ∧ Blk w' (w.heap.size + 2) 3 #[.int .i64 h.v.ow])
        (fun k w1 w2 hb p => ⟨p.1, p.2.of (hb.block _ h1.2.2.2.2.lt)⟩) (fun v w1 w2 hb p => ⟨p.1, p.2.of (hb.block _ h1.2.2.2.2.lt)⟩) (fun W base g c hb1 hb2 hbw hg hk hN hD hcv hB' => by
        rw [← hcv]
        exact brk1e_any W base g c (w.heap.size + 2) 0 hb2 hg hk hN (by have := h1.2.1; omega) (h1.2.2.2.2.of (hbw.block _ h1.2.2.2.2.lt)))).mono fun e w' ⟨f, q⟩ => ?_
      refine ⟨f, ?_⟩
      rcases q with ⟨q, _⟩ | ⟨_, k, he, _, p1, p2⟩ | ⟨_, q, he, hN, p1, p2⟩
      · rw [hB] at q; cases q
      · obtain rfl : k = 6 := p1.2
        exact .inr (.inl ⟨rfl, p1, he, p2⟩)
      · exact .inr (.inr ⟨rfl, q, he, hN, p1, p2⟩))
  have HW1 := Lib.hid hW1
  have H1 := Lib.hid h1
  clear hW1 h1 hR hS
  unfold HA.cs at *
  have hz := head_zero
  go_enter Try.func70, Try.ntmps70
  go_upto_region 2 with (fail)
  rw [← HW1.out]
  clear HW1
  have K1 := H1.out.2.2.1
  go_wp2_with (have _h := K1; refine wpList_loadq rfl 36 (.tmp 1) rfl (w.heap.size) [.int .i64 h.id, .int .i64 h.vw.size, .int .i64 h.obj, .int .i64 h.seq, .slice h.S h.sn.length h.cs', .bool h.vw.on, .bool h.vw.good, .slice h.vw.M h.vw.row.length h.vw.cm, .string (strOf h.vw.par), .int .i64 h.vw.ps, .int .i64 h.vw.ov, .int .i64 h.ow, .int .i64 h.it, .int .i64 h.tg] _ rfl K1 Try.underlying36 rfl (by kernel_rfl) ?_; clear _h K1)
  refine HCH.out.mono ?_
  rintro e w2 ⟨f2, h2⟩
  have hz1 := H1.out.2.1
  have kh2 : Blk w2 w.heap.size 36 #[.int .i64 h.id, .int .i64 h.vw.size, .int .i64 h.obj, .int .i64 h.seq, .slice h.S h.sn.length h.cs', .bool h.vw.on, .bool h.vw.good, .slice h.vw.M h.vw.row.length h.vw.cm, .string (strOf h.vw.par), .int .i64 h.vw.ps, .int .i64 h.vw.ov, .int .i64 h.ow, .int .i64 h.it, .int .i64 h.tg] := H1.out.2.2.1.of (f2.block _ H1.out.2.2.1.lt (by simp))
  have kr2 : Blk w2 (w.heap.size + 1) 36 #[.int .i64 0, .int .i64 0, .int .i64 0, .int .i64 0, .slice none 0 0, .bool false, .bool false, .slice none 0 0, .string ⟨#[]⟩, .int .i64 0, .int .i64 0, .int .i64 0, .int .i64 0, .int .i64 0] := H1.out.2.2.2.1.of (f2.block _ H1.out.2.2.2.1.lt (by simp))
  have HB2 : Hid (Below w.heap.size w w2) := Lib.hid ⟨f2.os.trans H1.out.1.os, f2.tape.trans H1.out.1.tape, f2.output.trans H1.out.1.output, Nat.le_trans H1.out.1.size f2.size, fun k hk => (f2.block k (by omega) (by simp; omega)).trans (H1.out.1.block k hk)⟩
  have HR2 := Lib.hid kr2
  have hs2 : w.heap.size + 3 ≤ w2.heap.size := by have := f2.size; omega
  clear f2 HCH kr2
  rcases h2 with ⟨hB, rfl, kw⟩ | ⟨hB, hp, rfl, kw⟩ | ⟨hB, q, rfl, hqN, ho, kw⟩
  · have HH := Lib.hid hB
    clear hB
    have KW : Blk w2 (w.heap.size + 2) 3 #[.int .i64 0] := kw
    clear kw
    simp only [errV, Z14]
    have HKW := Lib.hid KW
    clear KW
    go_wp2_with (have _h := kh2; refine wpList_storeq rfl 36 (.tmp 1) (.tmp 11) rfl (w.heap.size) _ [.int .i64 0, .int .i64 0, .int .i64 0, .int .i64 0, .slice none 0 0, .bool false, .bool false, .slice none 0 0, .string ⟨#[]⟩, .int .i64 0, .int .i64 0, .int .i64 0, .int .i64 0, .int .i64 0] rfl rfl kh2 (by simp) (by kernel_rfl) (one14 _ _ _ _ _ _ _ _ _ _ _ _ _ _ _ _ _ _) ?_; clear _h kh2; intro w9 K9 o9 s9; have HO9 := Lib.hid (And.intro o9 s9); have HK9 := Lib.hid K9; clear o9 s9 K9)
    have kw9 : Blk w9 (w.heap.size + 2) 3 #[.int .i64 0] := HKW.out.only HO9.out.1 (by simp)
    have kr8 : Blk w9 (w.heap.size + 1) 36 #[.int .i64 0, .int .i64 0, .int .i64 0, .int .i64 0, .slice none 0 0, .bool false, .bool false, .slice none 0 0, .string ⟨#[]⟩, .int .i64 0, .int .i64 0, .int .i64 0, .int .i64 0, .int .i64 0] := HR2.out.only HO9.out.1 (by simp)
    have hS : Blk w9.drew w.heap.size 36 #[.int .i64 0, .int .i64 0, .int .i64 0, .int .i64 0, .slice none 0 0, .bool false, .bool false, .slice none 0 0, .string ⟨#[]⟩, .int .i64 0, .int .i64 0, .int .i64 0, .int .i64 0, .int .i64 0] ∧ Blk w9.drew (w.heap.size + 2) 3 #[.int .i64 0] := ⟨HK9.out, kw9⟩
    have kr9 : Blk w9.drew (w.heap.size + 1) 36 #[.int .i64 0, .int .i64 0, .int .i64 0, .int .i64 0, .slice none 0 0, .bool false, .bool false, .slice none 0 0, .string ⟨#[]⟩, .int .i64 0, .int .i64 0, .int .i64 0, .int .i64 0, .int .i64 0] := kr8
    refine any_beginL (fun W' => Blk W' w.heap.size 36 #[.int .i64 0, .int .i64 0, .int .i64 0, .int .i64 0, .slice none 0 0, .bool false, .bool false, .slice none 0 0, .string ⟨#[]⟩, .int .i64 0, .int .i64 0, .int .i64 0, .int .i64 0, .int .i64 0] ∧ Blk W' (w.heap.size + 2) 3 #[.int .i64 0]) 99 (by kernel_rfl) ?_
    refine S_take (i := 0) (v := .agg #[.int .i64 0, .int .i64 0, .int .i64 0, .int .i64 0, .slice none 0 0, .bool false, .bool false, .slice none 0 0, .string ⟨#[]⟩, .int .i64 0, .int .i64 0, .int .i64 0, .int .i64 0, .int .i64 0]) rfl rfl (by kernel_rfl) (by kernel_rfl) (by kernel_rfl) (fun _ _ _ h => h) (Or.inl ⟨by rfl, fun W' hw => by have k0 : W'.cell? ⟨w.heap.size, 0, none⟩ = some (.int .i64 0) := hw.1.cell 0; have k1 : W'.cell? ⟨w.heap.size, 1, none⟩ = some (.int .i64 0) := hw.1.cell 1; have k2 : W'.cell? ⟨w.heap.size, 2, none⟩ = some (.int .i64 0) := hw.1.cell 2; have k3 : W'.cell? ⟨w.heap.size, 3, none⟩ = some (.int .i64 0) := hw.1.cell 3; have k4 : W'.cell? ⟨w.heap.size, 4, none⟩ = some (.slice none 0 0) := hw.1.cell 4; have k5 : W'.cell? ⟨w.heap.size, 5, none⟩ = some (.bool false) := hw.1.cell 5; have k6 : W'.cell? ⟨w.heap.size, 6, none⟩ = some (.bool false) := hw.1.cell 6; have k7 : W'.cell? ⟨w.heap.size, 7, none⟩ = some (.slice none 0 0) := hw.1.cell 7; have k8 : W'.cell? ⟨w.heap.size, 8, none⟩ = some (.string ⟨#[]⟩) := hw.1.cell 8; have k9 : W'.cell? ⟨w.heap.size, 9, none⟩ = some (.int .i64 0) := hw.1.cell 9; have k10 : W'.cell? ⟨w.heap.size, 10, none⟩ = some (.int .i64 0) := hw.1.cell 10; have k11 : W'.cell? ⟨w.heap.size, 11, none⟩ = some (.int .i64 0) := hw.1.cell 11; have k12 : W'.cell? ⟨w.heap.size, 12, none⟩ = some (.int .i64 0) := hw.1.cell 12; have k13 : W'.cell? ⟨w.heap.size, 13, none⟩ = some (.int .i64 0) := hw.1.cell 13; go_simp⟩) hS ?_
    simp only [Act.put, List.getElem_toArray, List.getElem_cons_succ, List.getElem_cons_zero, List.setIfInBounds_toArray, List.set_cons_zero, List.set_cons_succ]
    refine S_take (i := 1) (v := .int .i64 0) rfl rfl (by kernel_rfl) (by kernel_rfl) (by kernel_rfl) (fun _ _ _ h => h) (Or.inl ⟨by rfl, fun W' hw => by have k1 : W'.cell? ⟨w.heap.size + 2, 0, none⟩ = some (.int .i64 0) := hw.2.cell 0; go_simp⟩) hS ?_
    simp only [Act.put, List.getElem_toArray, List.getElem_cons_succ, List.getElem_cons_zero, List.setIfInBounds_toArray, List.set_cons_zero, List.set_cons_succ]
    refine S_take (i := 2) (v := .iface 46 (.int .i64 2)) rfl rfl (by kernel_rfl) (by kernel_rfl) (by kernel_rfl) (fun _ _ _ h => h) (Or.inl ⟨by rfl, fun W' hw => by go_simp⟩) hS ?_
    simp only [Act.put, List.getElem_toArray, List.getElem_cons_succ, List.getElem_cons_zero, List.setIfInBounds_toArray, List.set_cons_zero, List.set_cons_succ]
    refine L_one (j := 3) (by kernel_rfl) rfl (by rfl) ?_
    simp only [Act.put, List.getElem_toArray, List.getElem_cons_succ, List.getElem_cons_zero, List.setIfInBounds_toArray, List.set_cons_zero, List.set_cons_succ]
    refine wp_storeq 36 (.tmp 2) (.tmp 13) rfl (w.heap.size + 1) _ [.int .i64 0, .int .i64 0, .int .i64 0, .int .i64 0, .slice none 0 0, .bool false, .bool false, .slice none 0 0, .string ⟨#[]⟩, .int .i64 0, .int .i64 0, .int .i64 0, .int .i64 0, .int .i64 0] rfl rfl kr9 (by simp) (by kernel_rfl) (one14 _ _ _ _ _ _ _ _ _ _ _ _ _ _ _ _ _ _) ?_
    intro w10 K10 o10 s10
    have hS : Blk w10 w.heap.size 36 #[.int .i64 0, .int .i64 0, .int .i64 0, .int .i64 0, .slice none 0 0, .bool false, .bool false, .slice none 0 0, .string ⟨#[]⟩, .int .i64 0, .int .i64 0, .int .i64 0, .int .i64 0, .int .i64 0] ∧ Blk w10 (w.heap.size + 2) 3 #[.int .i64 0] := ⟨hS.1.only o10 (by simp), hS.2.only o10 (by simp)⟩
    refine ⟨hS, ?_⟩
    simp only [Act.put, List.getElem_toArray, List.getElem_cons_succ, List.getElem_cons_zero, List.setIfInBounds_toArray, List.set_cons_zero, List.set_cons_succ]
    refine S_take (i := 4) (v := .int .i64 0) rfl rfl (by kernel_rfl) (by kernel_rfl) (by kernel_rfl) (fun _ _ _ h => h) (Or.inl ⟨by rfl, fun W' hw => by go_simp⟩) hS ?_
    simp only [Act.put, List.getElem_toArray, List.getElem_cons_succ, List.getElem_cons_zero, List.setIfInBounds_toArray, List.set_cons_zero, List.set_cons_succ]
    refine S_take (i := 5) (v := .iface 46 (.int .i64 2)) rfl rfl (by kernel_rfl) (by kernel_rfl) (by kernel_rfl) (fun _ _ _ h => h) (Or.inl ⟨by rfl, fun W' hw => by go_simp⟩) hS ?_
    simp only [Act.put, List.getElem_toArray, List.getElem_cons_succ, List.getElem_cons_zero, List.setIfInBounds_toArray, List.set_cons_zero, List.set_cons_succ]
    refine L_done (by kernel_rfl) ?_
    refine NoPanic.normal ?_
    clear hS
    go_wp2
    refine bodyPost_ret (results_three rfl _ _ (w.heap.size + 1) 36 _ (0, 0) _ _ _ rfl rfl rfl K10 Try.underlying36 rfl (by kernel_rfl)) rfl ?_
    have hb8 : Below w.heap.size w2 w9.drew := (HO9.out.1.below (B := w.heap.size) (fun x hx => by simp at hx; omega) HB2.out.size).drew
    have hb10 : Below w.heap.size w9.drew w10 := o10.below (B := w.heap.size) (fun x hx => by simp at hx; omega) (by have := HO9.out.2; show w.heap.size ≤ w9.heap.size; omega)
    have hb9 : Below w.heap.size w w10 := HB2.out.trans (hb8.trans hb10)
    exact ⟨hb9, .inl ⟨HH.out, rfl⟩⟩
  · have HH := Lib.hid (And.intro hB hp)
    clear hB hp
    have KW : Blk w2 (w.heap.size + 2) 3 #[.int .i64 0] := kw
    clear kw
    simp only [errV, Z14]
    have HKW := Lib.hid KW
    clear KW
    go_wp2_with (have _h := kh2; refine wpList_storeq rfl 36 (.tmp 1) (.tmp 11) rfl (w.heap.size) _ [.int .i64 0, .int .i64 0, .int .i64 0, .int .i64 0, .slice none 0 0, .bool false, .bool false, .slice none 0 0, .string ⟨#[]⟩, .int .i64 0, .int .i64 0, .int .i64 0, .int .i64 0, .int .i64 0] rfl rfl kh2 (by simp) (by kernel_rfl) (one14 _ _ _ _ _ _ _ _ _ _ _ _ _ _ _ _ _ _) ?_; clear _h kh2; intro w9 K9 o9 s9; have HO9 := Lib.hid (And.intro o9 s9); have HK9 := Lib.hid K9; clear o9 s9 K9)
    have kw9 : Blk w9 (w.heap.size + 2) 3 #[.int .i64 0] := HKW.out.only HO9.out.1 (by simp)
    have kr8 : Blk w9 (w.heap.size + 1) 36 #[.int .i64 0, .int .i64 0, .int .i64 0, .int .i64 0, .slice none 0 0, .bool false, .bool false, .slice none 0 0, .string ⟨#[]⟩, .int .i64 0, .int .i64 0, .int .i64 0, .int .i64 0, .int .i64 0] := HR2.out.only HO9.out.1 (by simp)
    have hS : Blk w9.drew w.heap.size 36 #[.int .i64 0, .int .i64 0, .int .i64 0, .int .i64 0, .slice none 0 0, .bool false, .bool false, .slice none 0 0, .string ⟨#[]⟩, .int .i64 0, .int .i64 0, .int .i64 0, .int .i64 0, .int .i64 0] ∧ Blk w9.drew (w.heap.size + 2) 3 #[.int .i64 0] := ⟨HK9.out, kw9⟩
    have kr9 : Blk w9.drew (w.heap.size + 1) 36 #[.int .i64 0, .int .i64 0, .int .i64 0, .int .i64 0, .slice none 0 0, .bool false, .bool false, .slice none 0 0, .string ⟨#[]⟩, .int .i64 0, .int .i64 0, .int .i64 0, .int .i64 0, .int .i64 0] := kr8
    refine any_beginL (fun W' => Blk W' w.heap.size 36 #[.int .i64 0, .int .i64 0, .int .i64 0, .int .i64 0, .slice none 0 0, .bool false, .bool false, .slice none 0 0, .string ⟨#[]⟩, .int .i64 0, .int .i64 0, .int .i64 0, .int .i64 0, .int .i64 0] ∧ Blk W' (w.heap.size + 2) 3 #[.int .i64 0]) 99 (by kernel_rfl) ?_
    refine S_take (i := 0) (v := .agg #[.int .i64 0, .int .i64 0, .int .i64 0, .int .i64 0, .slice none 0 0, .bool false, .bool false, .slice none 0 0, .string ⟨#[]⟩, .int .i64 0, .int .i64 0, .int .i64 0, .int .i64 0, .int .i64 0]) rfl rfl (by kernel_rfl) (by kernel_rfl) (by kernel_rfl) (fun _ _ _ h => h) (Or.inl ⟨by rfl, fun W' hw => by have k0 : W'.cell? ⟨w.heap.size, 0, none⟩ = some (.int .i64 0) := hw.1.cell 0; have k1 : W'.cell? ⟨w.heap.size, 1, none⟩ = some (.int .i64 0) := hw.1.cell 1; have k2 : W'.cell? ⟨w.heap.size, 2, none⟩ = some (.int .i64 0) := hw.1.cell 2; have k3 : W'.cell? ⟨w.heap.size, 3, none⟩ = some (.int .i64 0) := hw.1.cell 3; have k4 : W'.cell? ⟨w.heap.size, 4, none⟩ = some (.slice none 0 0) := hw.1.cell 4; have k5 : W'.cell? ⟨w.heap.size, 5, none⟩ = some (.bool false) := hw.1.cell 5; have k6 : W'.cell? ⟨w.heap.size, 6, none⟩ = some (.bool false) := hw.1.cell 6; have k7 : W'.cell? ⟨w.heap.size, 7, none⟩ = some (.slice none 0 0) := hw.1.cell 7; have k8 : W'.cell? ⟨w.heap.size, 8, none⟩ = some (.string ⟨#[]⟩) := hw.1.cell 8; have k9 : W'.cell? ⟨w.heap.size, 9, none⟩ = some (.int .i64 0) := hw.1.cell 9; have k10 : W'.cell? ⟨w.heap.size, 10, none⟩ = some (.int .i64 0) := hw.1.cell 10; have k11 : W'.cell? ⟨w.heap.size, 11, none⟩ = some (.int .i64 0) := hw.1.cell 11; have k12 : W'.cell? ⟨w.heap.size, 12, none⟩ = some (.int .i64 0) := hw.1.cell 12; have k13 : W'.cell? ⟨w.heap.size, 13, none⟩ = some (.int .i64 0) := hw.1.cell 13; go_simp⟩) hS ?_
    simp only [Act.put, List.getElem_toArray, List.getElem_cons_succ, List.getElem_cons_zero, List.setIfInBounds_toArray, List.set_cons_zero, List.set_cons_succ]
    refine S_take (i := 1) (v := .int .i64 0) rfl rfl (by kernel_rfl) (by kernel_rfl) (by kernel_rfl) (fun _ _ _ h => h) (Or.inl ⟨by rfl, fun W' hw => by have k1 : W'.cell? ⟨w.heap.size + 2, 0, none⟩ = some (.int .i64 0) := hw.2.cell 0; go_simp⟩) hS ?_
    simp only [Act.put, List.getElem_toArray, List.getElem_cons_succ, List.getElem_cons_zero, List.setIfInBounds_toArray, List.set_cons_zero, List.set_cons_succ]
    refine S_take (i := 2) (v := .iface 46 (.int .i64 6)) rfl rfl (by kernel_rfl) (by kernel_rfl) (by kernel_rfl) (fun _ _ _ h => h) (Or.inl ⟨by rfl, fun W' hw => by go_simp⟩) hS ?_
    simp only [Act.put, List.getElem_toArray, List.getElem_cons_succ, List.getElem_cons_zero, List.setIfInBounds_toArray, List.set_cons_zero, List.set_cons_succ]
    refine L_one (j := 3) (by kernel_rfl) rfl (by rfl) ?_
    simp only [Act.put, List.getElem_toArray, List.getElem_cons_succ, List.getElem_cons_zero, List.setIfInBounds_toArray, List.set_cons_zero, List.set_cons_succ]
    refine wp_storeq 36 (.tmp 2) (.tmp 13) rfl (w.heap.size + 1) _ [.int .i64 0, .int .i64 0, .int .i64 0, .int .i64 0, .slice none 0 0, .bool false, .bool false, .slice none 0 0, .string ⟨#[]⟩, .int .i64 0, .int .i64 0, .int .i64 0, .int .i64 0, .int .i64 0] rfl rfl kr9 (by simp) (by kernel_rfl) (one14 _ _ _ _ _ _ _ _ _ _ _ _ _ _ _ _ _ _) ?_
    intro w10 K10 o10 s10
    have hS : Blk w10 w.heap.size 36 #[.int .i64 0, .int .i64 0, .int .i64 0, .int .i64 0, .slice none 0 0, .bool false, .bool false, .slice none 0 0, .string ⟨#[]⟩, .int .i64 0, .int .i64 0, .int .i64 0, .int .i64 0, .int .i64 0] ∧ Blk w10 (w.heap.size + 2) 3 #[.int .i64 0] := ⟨hS.1.only o10 (by simp), hS.2.only o10 (by simp)⟩
    refine ⟨hS, ?_⟩
    simp only [Act.put, List.getElem_toArray, List.getElem_cons_succ, List.getElem_cons_zero, List.setIfInBounds_toArray, List.set_cons_zero, List.set_cons_succ]
    refine S_take (i := 4) (v := .int .i64 0) rfl rfl (by kernel_rfl) (by kernel_rfl) (by kernel_rfl) (fun _ _ _ h => h) (Or.inl ⟨by rfl, fun W' hw => by go_simp⟩) hS ?_
    simp only [Act.put, List.getElem_toArray, List.getElem_cons_succ, List.getElem_cons_zero, List.setIfInBounds_toArray, List.set_cons_zero, List.set_cons_succ]
    refine S_take (i := 5) (v := .iface 46 (.int .i64 6)) rfl rfl (by kernel_rfl) (by kernel_rfl) (by kernel_rfl) (fun _ _ _ h => h) (Or.inl ⟨by rfl, fun W' hw => by go_simp⟩) hS ?_
    simp only [Act.put, List.getElem_toArray, List.getElem_cons_succ, List.getElem_cons_zero, List.setIfInBounds_toArray, List.set_cons_zero, List.set_cons_succ]
    refine L_done (by kernel_rfl) ?_
    refine NoPanic.normal ?_
    clear hS
    go_wp2
    refine bodyPost_ret (results_three rfl _ _ (w.heap.size + 1) 36 _ (0, 0) _ _ _ rfl rfl rfl K10 Try.underlying36 rfl (by kernel_rfl)) rfl ?_
    have hb8 : Below w.heap.size w2 w9.drew := (HO9.out.1.below (B := w.heap.size) (fun x hx => by simp at hx; omega) HB2.out.size).drew
    have hb10 : Below w.heap.size w9.drew w10 := o10.below (B := w.heap.size) (fun x hx => by simp at hx; omega) (by have := HO9.out.2; show w.heap.size ≤ w9.heap.size; omega)
    have hb9 : Below w.heap.size w w10 := HB2.out.trans (hb8.trans hb10)
    exact ⟨hb9, .inr (.inl ⟨HH.out.1, HH.out.2, rfl⟩)⟩
  · have HKH := Lib.hid kh2
    have HH := Lib.hid (And.intro hB (And.intro hqN ho))
    clear hB hqN ho
    have KW : Blk w2 (w.heap.size + 2) 3 #[.int .i64 h.ow] := kw
    clear kw
    have HKW := Lib.hid KW
    clear KW
    go_wp2_with (have _h := kh2; refine wpList_storeq rfl 36 (.tmp 1) (.tmp 11) rfl (w.heap.size) _ [.int .i64 q.id, .int .i64 q.vw.size, .int .i64 q.obj, .int .i64 q.seq, .slice q.S q.sn.length q.cs', .bool q.vw.on, .bool q.vw.good, .slice q.vw.M q.vw.row.length q.vw.cm, .string (strOf q.vw.par), .int .i64 q.vw.ps, .int .i64 q.vw.ov, .int .i64 q.ow, .int .i64 q.it, .int .i64 q.tg] rfl rfl kh2 (by simp) (by kernel_rfl) (one14 _ _ _ _ _ _ _ _ _ _ _ _ _ _ _ _ _ _) ?_; clear _h kh2; intro w9 K9 o9 s9; have HO9 := Lib.hid (And.intro o9 s9); have HK9 := Lib.hid K9; clear o9 s9 K9)
    have kw9 : Blk w9 (w.heap.size + 2) 3 #[.int .i64 h.ow] := HKW.out.only HO9.out.1 (by simp)
    have kr8 : Blk w9 (w.heap.size + 1) 36 #[.int .i64 0, .int .i64 0, .int .i64 0, .int .i64 0, .slice none 0 0, .bool false, .bool false, .slice none 0 0, .string ⟨#[]⟩, .int .i64 0, .int .i64 0, .int .i64 0, .int .i64 0, .int .i64 0] := HR2.out.only HO9.out.1 (by simp)
    have hS : Blk w9.drew w.heap.size 36 #[.int .i64 q.id, .int .i64 q.vw.size, .int .i64 q.obj, .int .i64 q.seq, .slice q.S q.sn.length q.cs', .bool q.vw.on, .bool q.vw.good, .slice q.vw.M q.vw.row.length q.vw.cm, .string (strOf q.vw.par), .int .i64 q.vw.ps, .int .i64 q.vw.ov, .int .i64 q.ow, .int .i64 q.it, .int .i64 q.tg] ∧ Blk w9.drew (w.heap.size + 2) 3 #[.int .i64 h.ow] := ⟨HK9.out, kw9⟩
    have kr9 : Blk w9.drew (w.heap.size + 1) 36 #[.int .i64 0, .int .i64 0, .int .i64 0, .int .i64 0, .slice none 0 0, .bool false, .bool false, .slice none 0 0, .string ⟨#[]⟩, .int .i64 0, .int .i64 0, .int .i64 0, .int .i64 0, .int .i64 0] := kr8
    refine any_beginL (fun W' => Blk W' w.heap.size 36 #[.int .i64 q.id, .int .i64 q.vw.size, .int .i64 q.obj, .int .i64 q.seq, .slice q.S q.sn.length q.cs', .bool q.vw.on, .bool q.vw.good, .slice q.vw.M q.vw.row.length q.vw.cm, .string (strOf q.vw.par), .int .i64 q.vw.ps, .int .i64 q.vw.ov, .int .i64 q.ow, .int .i64 q.it, .int .i64 q.tg] ∧ Blk W' (w.heap.size + 2) 3 #[.int .i64 h.ow]) 99 (by kernel_rfl) ?_
    refine S_take (i := 0) (v := .agg #[.int .i64 q.id, .int .i64 q.vw.size, .int .i64 q.obj, .int .i64 q.seq, .slice q.S q.sn.length q.cs', .bool q.vw.on, .bool q.vw.good, .slice q.vw.M q.vw.row.length q.vw.cm, .string (strOf q.vw.par), .int .i64 q.vw.ps, .int .i64 q.vw.ov, .int .i64 q.ow, .int .i64 q.it, .int .i64 q.tg]) rfl rfl (by kernel_rfl) (by kernel_rfl) (by kernel_rfl) (fun _ _ _ h => h) (Or.inl ⟨by rfl, fun W' hw => by have k0 : W'.cell? ⟨w.heap.size, 0, none⟩ = some (.int .i64 q.id) := hw.1.cell 0; have k1 : W'.cell? ⟨w.heap.size, 1, none⟩ = some (.int .i64 q.vw.size) := hw.1.cell 1; have k2 : W'.cell? ⟨w.heap.size, 2, none⟩ = some (.int .i64 q.obj) := hw.1.cell 2; have k3 : W'.cell? ⟨w.heap.size, 3, none⟩ = some (.int .i64 q.seq) := hw.1.cell 3; have k4 : W'.cell? ⟨w.heap.size, 4, none⟩ = some (.slice q.S q.sn.length q.cs') := hw.1.cell 4; have k5 : W'.cell? ⟨w.heap.size, 5, none⟩ = some (.bool q.vw.on) := hw.1.cell 5; have k6 : W'.cell? ⟨w.heap.size, 6, none⟩ = some (.bool q.vw.good) := hw.1.cell 6; have k7 : W'.cell? ⟨w.heap.size, 7, none⟩ = some (.slice q.vw.M q.vw.row.length q.vw.cm) := hw.1.cell 7; have k8 : W'.cell? ⟨w.heap.size, 8, none⟩ = some (.string (strOf q.vw.par)) := hw.1.cell 8; have k9 : W'.cell? ⟨w.heap.size, 9, none⟩ = some (.int .i64 q.vw.ps) := hw.1.cell 9; have k10 : W'.cell? ⟨w.heap.size, 10, none⟩ = some (.int .i64 q.vw.ov) := hw.1.cell 10; have k11 : W'.cell? ⟨w.heap.size, 11, none⟩ = some (.int .i64 q.ow) := hw.1.cell 11; have k12 : W'.cell? ⟨w.heap.size, 12, none⟩ = some (.int .i64 q.it) := hw.1.cell 12; have k13 : W'.cell? ⟨w.heap.size, 13, none⟩ = some (.int .i64 q.tg) := hw.1.cell 13; go_simp⟩) hS ?_
    simp only [Act.put, List.getElem_toArray, List.getElem_cons_succ, List.getElem_cons_zero, List.setIfInBounds_toArray, List.set_cons_zero, List.set_cons_succ]
    refine S_take (i := 1) (v := .int .i64 h.ow) rfl rfl (by kernel_rfl) (by kernel_rfl) (by kernel_rfl) (fun _ _ _ h => h) (Or.inl ⟨by rfl, fun W' hw => by have k1 : W'.cell? ⟨w.heap.size + 2, 0, none⟩ = some (.int .i64 h.ow) := hw.2.cell 0; go_simp⟩) hS ?_
    simp only [Act.put, List.getElem_toArray, List.getElem_cons_succ, List.getElem_cons_zero, List.setIfInBounds_toArray, List.set_cons_zero, List.set_cons_succ]
    refine S_take (i := 2) (v := .nilIface) rfl rfl (by kernel_rfl) (by kernel_rfl) (by kernel_rfl) (fun _ _ _ h => h) (Or.inl ⟨by rfl, fun W' hw => by go_simp⟩) hS ?_
    simp only [Act.put, List.getElem_toArray, List.getElem_cons_succ, List.getElem_cons_zero, List.setIfInBounds_toArray, List.set_cons_zero, List.set_cons_succ]
    refine L_one (j := 3) (by kernel_rfl) rfl (by rfl) ?_
    simp only [Act.put, List.getElem_toArray, List.getElem_cons_succ, List.getElem_cons_zero, List.setIfInBounds_toArray, List.set_cons_zero, List.set_cons_succ]
    refine wp_storeq 36 (.tmp 2) (.tmp 13) rfl (w.heap.size + 1) _ [.int .i64 q.id, .int .i64 q.vw.size, .int .i64 q.obj, .int .i64 q.seq, .slice q.S q.sn.length q.cs', .bool q.vw.on, .bool q.vw.good, .slice q.vw.M q.vw.row.length q.vw.cm, .string (strOf q.vw.par), .int .i64 q.vw.ps, .int .i64 q.vw.ov, .int .i64 q.ow, .int .i64 q.it, .int .i64 q.tg] rfl rfl kr9 (by simp) (by kernel_rfl) (one14 _ _ _ _ _ _ _ _ _ _ _ _ _ _ _ _ _ _) ?_
    intro w10 K10 o10 s10
    have hS : Blk w10 w.heap.size 36 #[.int .i64 q.id, .int .i64 q.vw.size, .int .i64 q.obj, .int .i64 q.seq, .slice q.S q.sn.length q.cs', .bool q.vw.on, .bool q.vw.good, .slice q.vw.M q.vw.row.length q.vw.cm, .string (strOf q.vw.par), .int .i64 q.vw.ps, .int .i64 q.vw.ov, .int .i64 q.ow, .int .i64 q.it, .int .i64 q.tg] ∧ Blk w10 (w.heap.size + 2) 3 #[.int .i64 h.ow] := ⟨hS.1.only o10 (by simp), hS.2.only o10 (by simp)⟩
    refine ⟨hS, ?_⟩
    simp only [Act.put, List.getElem_toArray, List.getElem_cons_succ, List.getElem_cons_zero, List.setIfInBounds_toArray, List.set_cons_zero, List.set_cons_succ]
    refine S_take (i := 4) (v := .int .i64 h.ow) rfl rfl (by kernel_rfl) (by kernel_rfl) (by kernel_rfl) (fun _ _ _ h => h) (Or.inl ⟨by rfl, fun W' hw => by go_simp⟩) hS ?_
    simp only [Act.put, List.getElem_toArray, List.getElem_cons_succ, List.getElem_cons_zero, List.setIfInBounds_toArray, List.set_cons_zero, List.set_cons_succ]
    refine S_take (i := 5) (v := .nilIface) rfl rfl (by kernel_rfl) (by kernel_rfl) (by kernel_rfl) (fun _ _ _ h => h) (Or.inl ⟨by rfl, fun W' hw => by go_simp⟩) hS ?_
    simp only [Act.put, List.getElem_toArray, List.getElem_cons_succ, List.getElem_cons_zero, List.setIfInBounds_toArray, List.set_cons_zero, List.set_cons_succ]
    refine L_done (by kernel_rfl) ?_
    refine NoPanic.normal ?_
    clear hS
    go_wp2
    refine bodyPost_ret (results_three rfl _ _ (w.heap.size + 1) 36 _ (0, 0) _ _ _ rfl rfl rfl K10 Try.underlying36 rfl (by kernel_rfl)) rfl ?_
    have hb8 : Below w.heap.size w2 w9.drew := (HO9.out.1.below (B := w.heap.size) (fun x hx => by simp at hx; omega) HB2.out.size).drew
    have hb10 : Below w.heap.size w9.drew w10 := o10.below (B := w.heap.size) (fun x hx => by simp at hx; omega) (by have := HO9.out.2; show w.heap.size ≤ w9.heap.size; omega)
    have hb9 : Below w.heap.size w w10 := HB2.out.trans (hb8.trans hb10)
    refine ⟨hb9, .inr (.inr ⟨HH.out.1, q, rfl, ?_, HH.out.2.2⟩)⟩
    exact ((HH.out.2.1.stay HKH.out HO9.out.1).stay (HR2.out.only HO9.out.1 (by simp)) (w' := w10) ⟨o10.os, o10.tape, o10.output, o10.size, o10.block⟩).weaken (by omega)
end Go.Proofs.Ytiimanoloedbeaa

/-
  What Rebuilt does with a copy of a head. Conditions: the copy is the call's own and good, its rows lie in blocks of their own; the marks handed in lie under it.
-/
namespace Go.Proofs.Ytiimanoloedbeaa
open Go.RowKit Go.BigFrame
set_option linter.unusedSimpArgs false
set_option linter.unusedVariables false
set_option maxRecDepth 100000
/-- all marks are copied onto a row of the call's own -/
theorem wpList_copy_row {P : Program} {ops : Array Oper} {rest : List Oper} {o : Oper} {a : Act} {w : World} {Q : Exit → Act → World → Prop} (hgd : o.guard = none) (d s : Operand) (dT sT : TypeId) (ho : o.op = .call { callee := .builtin .copy, args := #[d, s], argTypes := #[dT, sT] }) (elem : TypeId) (hu : P.underlying dT = some (.slice elem)) (hsz : (P.info? elem).map (·.size) = some 1)
    (M : Option Addr) (n c base : Nat) (row : List Nat) (hO : Own w base (.slice M n c) n row) (hd : a.eval d = .slice M n c) (Am : Option Addr) (cm B : Nat) (m : List Nat) (hs : a.eval s = .slice Am n cm) (hbm : Bytes w B Am n m)
    (h : ∀ w', Own w' base (.slice M n c) n m → Only (rowOf (.slice M 0 0)) w w' → wpList P ops Q rest (a.put o.dst (goInt n)) w') : wpList P ops Q (o :: rest) a w := by
  have hml : m.length = n := hbm.len
  by_cases h0 : n = 0
  · subst h0
    obtain rfl : m = [] := List.eq_nil_of_length_eq_zero hml
    have hr : row = [] := by
      have := hO.1
      simp [u8s] at this
      exact this
    subst hr
    exact wpList_copy_nothing hgd d s dT sT ho elem hu hsz M Am 0 c 0 cm hd hs (by simp) (h w hO (Only.refl _ _))
  · rcases hO.2 with ⟨_, h2⟩ | ⟨g, cap, cur, hv, hb, hh, h1, h2, h3, h4⟩
    · exact absurd h2 h0
    · injection hv with e1 e2 e3
      subst e1 e3
      obtain ⟨ad, had, _, hcell⟩ := hbm.1.2 (by omega)
      subst had
      have hl : (u8s m).length = n := by rw [u8s_length, hml]
      refine wpList_copy_own hgd d s dT sT ho elem hu hsz g 0 n c ad n cm hd hs cur 5 hh (u8s m) (by rw [hl]; simp) hcell (by rw [hl, h3]; omega) (oneCell_u8s m) ?_
      rw [hl]
      refine h _ ⟨by rw [hl]; omega, .inr ⟨g, c, _, rfl, hb, setRow_heap w g cur _ 5 _ hh, h1, h2, ?_, ?_⟩⟩ ⟨rfl, rfl, rfl, by simp [World.setRow], fun k _ hk => setRow_other w g k _ (fun e => hk (by simp [rowOf, Value.ownBlock, e]))⟩
      · simp only [List.take_zero, List.nil_append, List.size_toArray, List.length_append, List.length_drop, Array.length_toList, hl]
        omega
      · simp only [List.take_zero, List.nil_append]
        exact List.take_left' (by rw [hl]; omega)
theorem wpList_setth {P : Program} {ops : Array Oper} {rest : List Oper} {o : Oper} {a : Act} {w : World} {Q : Exit → Act → World → Prop} (hgd : o.guard = none) (ty : TypeId) (x y : Operand) (ho : o.op = .store ty x y)
    (g j : Nat) (v : Value) (hx : a.eval x = .pointer (some ⟨g, j, none⟩)) (hy : a.eval y = v) (hth : w.there g j 1) (hi : (P.info? ty).map (·.size) = some 1) (h1 : v.oneCell' = true)
    (h : wpList P ops Q rest (a.put o.dst undef) (w.setCell ⟨g, j, none⟩ v)) : wpList P ops Q (o :: rest) a w :=
  wpList_plain hgd fun _ hK => wp_setth ty x y ho g j v hx hy hth hi h1 (hK _ _ h)
def RebE (v : HdV) (t : Int) (m : List Nat) (k : Nat) : Prop :=
  (t ≠ 0 ∧ idxN v t < 0 ∧ k = 6) ∨ (∃ mx : MkV, ((t = 0 ∧ mx = v.mx) ∨ (t ≠ 0 ∧ ∃ (i : Nat) (s : SnV), idxN v t = i ∧ v.sn[i]? = some s ∧ mx = s.mx)) ∧ ((mx.on = false ∧ k = 13) ∨ (mx.on = true ∧ (¬ Good m ∨ m.length ≠ mx.row.length) ∧ k = 1)))
def RebO (v : HdV) (t : Int) (m : List Nat) (v' : HdV) : Prop :=
  Good m ∧ ((t = 0 ∧ v.mx.on = true ∧ m.length = v.mx.row.length ∧ v' = { v with mx := ⟨v.mx.on, true, m⟩ }) ∨ (t ≠ 0 ∧ ∃ (i : Nat) (s : SnV), idxN v t = i ∧ v.sn[i]? = some s ∧ s.mx.on = true ∧ m.length = s.mx.row.length ∧ v' = v.setSn i { s with mx := ⟨s.mx.on, true, m⟩ }))
set_option maxHeartbeats 32000000 in
theorem reb1_any (W : World) (base g : Nat) (c : HA) (gn gm cm : Nat) (t : Int) (Am : Option Addr) (m : List Nat) (hb : base ≤ W.heap.size) (hg : base ≤ g) (k : Blk W g 36 c.cs) (hN : c.N W base []) (hdj : c.Dj) (hc : c.sn.length ≤ 1000) (ht : I64 t) (hgn : gn < base) (hgm : gm < base) (kn : W.cell? ⟨gn, 0, none⟩ = some (.int .i64 t)) (km : W.cell? ⟨gm, 0, none⟩ = some (.slice Am m.length cm)) (hm : m.length ≤ 10000) (hbm : Bytes W base Am m.length m) :
    Calls Try.prog 132 #[.pointer (some ⟨g, 0, none⟩), .pointer (some ⟨gn, 0, none⟩), .pointer (some ⟨gm, 0, none⟩)] W (DoesTo base [] g (fun k _ => RebE c.v t m k) (fun v _ => RebO c.v t m v) W) := by
  have K0 : Blk W g 36 #[.int .i64 c.id, .int .i64 c.vw.size, .int .i64 c.obj, .int .i64 c.seq, .slice c.S c.sn.length c.cs', .bool c.vw.on, .bool c.vw.good, .slice c.vw.M c.vw.row.length c.vw.cm, .string (strOf c.vw.par), .int .i64 c.vw.ps, .int .i64 c.vw.ov, .int .i64 c.ow, .int .i64 c.it, .int .i64 c.tg] := k
  have HK := Lib.hid (And.intro k (And.intro hN (And.intro hb (And.intro hg (And.intro hdj hc)))))
  have HB1 : Hid (∀ W', Below W.heap.size W W' → Blk W' g 36 #[.int .i64 c.id, .int .i64 c.vw.size, .int .i64 c.obj, .int .i64 c.seq, .slice c.S c.sn.length c.cs', .bool c.vw.on, .bool c.vw.good, .slice c.vw.M c.vw.row.length c.vw.cm, .string (strOf c.vw.par), .int .i64 c.vw.ps, .int .i64 c.vw.ov, .int .i64 c.ow, .int .i64 c.it, .int .i64 c.tg]) := Lib.hid fun W' hW' => K0.of (hW'.block _ K0.lt)
  have HNM : Hid (∀ W', Below W.heap.size W W' → Calls Try.prog 30 #[.agg #[.int .i64 c.id, .int .i64 c.vw.size, .int .i64 c.obj, .int .i64 c.seq, .slice c.S c.sn.length c.cs', .bool c.vw.on, .bool c.vw.good, .slice c.vw.M c.vw.row.length c.vw.cm, .string (strOf c.vw.par), .int .i64 c.vw.ps, .int .i64 c.vw.ov, .int .i64 c.ow, .int .i64 c.it, .int .i64 c.tg], .int .i64 t] W' fun e w' => e = .returned (.int .i64 (idxN c.v t)) ∧ Below W'.heap.size W' w') := Lib.hid fun W' hW' => by rw [idxN_own]; exact number_any c t W' (hN.below hW').R (by omega)
  have HKN : Hid (∀ W', Below W.heap.size W W' → W'.cell? ⟨gn, 0, none⟩ = some (.int .i64 t) ∧ W'.cell? ⟨gm, 0, none⟩ = some (.slice Am m.length cm) ∧ Bytes W' base Am m.length m) := Lib.hid fun W' hW' => ⟨(hW'.cell (by show gn < _; omega)).trans kn, (hW'.cell (by show gm < _; omega)).trans km, hbm.below (hW'.mono hb)⟩
  have HOH := Lib.hid (ofhead_any W g c k)
  have HM := Lib.hid hm
  have hz0 := view_zero
  clear k hN hb hg hdj hc ht hgn hgm kn km hm hbm K0
  go_enter Try.func132, Try.ntmps132
  go_wp2_with fail
  refine HOH.out.mono ?_
  rintro e w1 ⟨rfl, b1⟩
  have K1 : Blk (w1.alloc (.cells #[.bool false, .pointer none, .slice none 0 0] 163)) w1.heap.size 163 #[.bool false, .pointer none, .slice none 0 0] := Blk.new _ _ _
  have B1 : Hid (Below W.heap.size W (w1.alloc (.cells #[.bool false, .pointer none, .slice none 0 0] 163)) ∧ W.heap.size ≤ w1.heap.size) := Lib.hid ⟨b1.alloc b1.size _, b1.size⟩
  clear b1 HOH
  by_cases c0 : t = 0
  · as_aux_lemma =>
    have HC0 := Lib.hid c0
    have d0 : (t != 0) = false := by simpa using c0
    clear c0
    go_upto_region 7 with (have _h := K1; refine wpList_storeq rfl 163 (.tmp 5) (.tmp 10) rfl w1.heap.size _ [.bool c.vw.on, .pointer (some ⟨g, 6, none⟩), .slice c.vw.M c.vw.row.length c.vw.cm] rfl rfl K1 (by simp) (by kernel_rfl) (by intro u hu; simp at hu; rcases hu with h | h | h <;> subst h <;> rfl) ?_; clear _h K1; intro w2 K2 o2 s2; have HB2 : Hid (Below W.heap.size W w2) := Lib.hid (B1.out.1.trans (o2.below (fun q hq => by simp at hq; have := B1.out.2; omega) B1.out.1.size)); have qn : w2.cell? ⟨gn, 0, none⟩ = some (.int .i64 t) := (HKN.out w2 HB2.out).1; clear o2 s2; have HB9 := HB2; have KV : Blk w2 w1.heap.size 163 #[.bool c.vw.on, .pointer (some ⟨g, 6, none⟩), .slice c.vw.M c.vw.row.length c.vw.cm] := K2; clear K2)
    have HBW : Hid (Below W.heap.size W w2) := Lib.hid HB9.out
    have HKV := Lib.hid KV
    have q0 : w2.cell? ⟨w1.heap.size, 0, none⟩ = some (.bool c.vw.on) := KV.cell 0
    clear KV
    cases hon : c.vw.on with
    | false =>
      have HON := Lib.hid hon
      rw [hon] at q0
      clear hon
      go_wp2
      go_ret
      exact ⟨Frm.of (HBW.out.mono HK.out.2.2.1), .inl ⟨13, rfl, by omega, .inr ⟨c.v.mx, .inl ⟨HC0.out, rfl⟩, .inl ⟨HON.out, rfl⟩⟩⟩⟩
    | true =>
      have HON : Hid (c.vw.on = true) := Lib.hid hon
      rw [hon] at q0
      clear hon
      have qm : w2.cell? ⟨gm, 0, none⟩ = some (.slice Am m.length cm) := (HKN.out _ HBW.out).2.1
      by_cases hgd : Good m
      rotate_left
      · have HGD := Lib.hid hgd
        have HPT := Lib.hid (put_bad Am m.length cm base m w2 HM.out (HKN.out _ HBW.out).2.2 hgd)
        clear hgd
        go_wp2_with fail
        refine HPT.out.mono ?_
        rintro e w5 ⟨rfl, rfl⟩
        simp only [errV]
        go_wp2
        go_ret
        exact ⟨Frm.of (HBW.out.mono HK.out.2.2.1), .inl ⟨1, rfl, by omega, .inr ⟨c.v.mx, .inl ⟨HC0.out, rfl⟩, .inr ⟨HON.out, .inl HGD.out, rfl⟩⟩⟩⟩
      · have HGD := Lib.hid hgd
        have HPT := Lib.hid (put_ok Am m.length cm m w2 ((HKN.out _ HBW.out).2.2.more (Nat.le_trans HK.out.2.2.1 HBW.out.size)) hgd)
        clear hgd
        go_wp2_with fail
        refine HPT.out.mono ?_
        rintro e w5 ⟨rfl, _, b5⟩
        have HB5 := Lib.hid b5
        replace HBW : Hid (Below W.heap.size W w5) := Lib.hid (HBW.out.trans (b5.mono HBW.out.size))
        have KV5 : Blk w5 w1.heap.size 163 #[.bool c.vw.on, .pointer (some ⟨g, 6, none⟩), .slice c.vw.M c.vw.row.length c.vw.cm] := HKV.out.of (b5.block _ HKV.out.lt)
        clear b5 HPT q0 qm
        have qm : w5.cell? ⟨gm, 0, none⟩ = some (.slice Am m.length cm) := (HKN.out _ HBW.out).2.1
        have q2 : w5.cell? ⟨w1.heap.size, 2, none⟩ = some (.slice c.vw.M c.vw.row.length c.vw.cm) := KV5.cell 2
        by_cases heq : m.length = c.vw.row.length
        rotate_left
        · have HEQ := Lib.hid heq
          have d9 : ((m.length : Int) != (c.vw.row.length : Int)) = true := by simp; omega
          clear heq
          go_wp2
          go_ret
          exact ⟨Frm.of (HBW.out.mono HK.out.2.2.1), .inl ⟨1, rfl, by omega, .inr ⟨c.v.mx, .inl ⟨HC0.out, rfl⟩, .inr ⟨HON.out, .inr HEQ.out, rfl⟩⟩⟩⟩
        · have HEQ := Lib.hid heq
          have d9 : ((m.length : Int) != (c.vw.row.length : Int)) = false := by simp; omega
          have HOW : Hid (Own w5 base (.slice c.vw.M c.vw.row.length c.vw.cm) c.vw.row.length c.vw.row) := Lib.hid (HK.out.2.1.below HBW.out).vw.own
          have HBM : Hid (Bytes w5 base Am c.vw.row.length m) := Lib.hid (by have h := (HKN.out _ HBW.out).2.2; rw [heq] at h; exact h)
          have HTH : Hid (∀ w', Only (rowOf (.slice c.vw.M 0 0)) w5 w' → Blk w' w1.heap.size 163 #[.bool c.vw.on, .pointer (some ⟨g, 6, none⟩), .slice c.vw.M c.vw.row.length c.vw.cm] ∧ w'.there g 6 1) := Lib.hid fun w' ho => by
            have hvN := (HK.out.2.1.below HBW.out).vw
            have hty : ∀ {q : Nat} {t : TypeId} {cs : Array Value}, Blk w5 q t cs → t ≠ 5 → q ∉ rowOf (.slice c.vw.M 0 0) := fun kq hne h => by obtain ⟨cs, kb⟩ := hvN.ty h; exact kb.ne_ kq (Ne.symm hne) rfl
            refine ⟨KV5.only ho (hty KV5 (by decide)), ?_⟩
            have h5 : w5.there g 6 1 := (by have k1 := HB1.out _ HBW.out; exact k1.there (by simp))
            have hgp : ∃ tt cs, Blk w5 g tt cs ∧ tt ≠ 5 := ⟨_, _, HB1.out _ HBW.out, by decide⟩
            obtain ⟨tt, cs, kb, hne⟩ := hgp
            have e1 := ho.block g kb.lt (hty kb hne)
            intro q hq
            obtain ⟨x1, x2⟩ := h5 q hq
            exact ⟨by rw [World.cell?_of_block (a := ⟨g, 6 + q, none⟩) e1]; exact x1, by rw [World.frozen?_of_block (a := ⟨g, 6 + q, none⟩) e1]; exact x2⟩
          rw [heq] at qm
          clear heq KV5
          go_wp2_with (first
            | (have _h := HOW; refine wpList_copy_row rfl (.tmp 49) (.tmp 50) 33 33 rfl 5 Try.underlying33 (by kernel_rfl) c.vw.M c.vw.row.length c.vw.cm base c.vw.row HOW.out rfl Am cm base m rfl HBM.out ?_; clear _h HOW; intro w6 h6 o6; have HO6 := Lib.hid (And.intro h6 o6); have q1 : w6.cell? ⟨w1.heap.size, 1, none⟩ = some (.pointer (some ⟨g, 6, none⟩)) := (HTH.out w6 o6).1.cell 1; have HT6 := Lib.hid (HTH.out w6 o6).2; clear h6 o6)
            | (have _h := HT6; refine wpList_setth rfl 4 (.tmp 54) (.const (.bool true)) rfl g 6 (.bool true) rfl rfl HT6.out (by kernel_rfl) rfl ?_; clear _h HT6 HTH q1))
          go_ret
          have n5 := HK.out.2.1.below HBW.out
          have k5 := HK.out.1.of (HBW.out.block _ HK.out.1.lt)
          have h78 := foll_head true (Nat.le_trans HK.out.2.2.1 HBW.out.size) HK.out.2.2.2.1 k5 n5 HK.out.2.2.2.2.1 (row := m) HEQ.out (fun y hy => Nat.lt_of_le_of_lt (HGD.out.2 y hy) (by omega)) HO6.out.2 HO6.out.1
          exact ⟨Frm.of ((HBW.out.mono HK.out.2.2.1).trans h78.2.2), .inr ⟨rfl, _, h78.1, h78.2.1, HGD.out, .inl ⟨HC0.out, HON.out, HEQ.out, rfl⟩⟩⟩
  · as_aux_lemma =>
    have HC0 := Lib.hid c0
    have d0 : (t != 0) = true := by simpa using c0
    clear c0
    go_upto_region 3 with (have _h := K1; refine wpList_storeq rfl 163 (.tmp 5) (.tmp 10) rfl w1.heap.size _ [.bool c.vw.on, .pointer (some ⟨g, 6, none⟩), .slice c.vw.M c.vw.row.length c.vw.cm] rfl rfl K1 (by simp) (by kernel_rfl) (by intro u hu; simp at hu; rcases hu with h | h | h <;> subst h <;> rfl) ?_; clear _h K1; intro w2 K2 o2 s2; have HB2 : Hid (Below W.heap.size W w2) := Lib.hid (B1.out.1.trans (o2.below (fun q hq => by simp at hq; have := B1.out.2; omega) B1.out.1.size)); have qn : w2.cell? ⟨gn, 0, none⟩ = some (.int .i64 t) := (HKN.out w2 HB2.out).1; clear o2 s2)
    clear qn
    have hS : Below w2.heap.size w2 w2.drew := (Below.refl _ w2).drew
    refine any_beginL (fun W' => Below w2.heap.size w2 W') 99 (by kernel_rfl) ?_
    refine S_take (i := 0) (v := .pointer (some ⟨g, 0, none⟩)) rfl rfl (by kernel_rfl) (by kernel_rfl) (by kernel_rfl) (fun _ _ _ h => h) (Or.inl ⟨by rfl, fun W' hw => by go_simp⟩) hS ?_
    simp only [Act.put, List.getElem_toArray, List.getElem_cons_succ, List.getElem_cons_zero, List.setIfInBounds_toArray, List.set_cons_zero, List.set_cons_succ]
    refine S_take (i := 1) (v := .pointer (some ⟨g, 0, none⟩)) rfl rfl (by kernel_rfl) (by kernel_rfl) (by kernel_rfl) (fun _ _ _ h => h) (Or.inl ⟨by rfl, fun W' hw => by go_simp⟩) hS ?_
    simp only [Act.put, List.getElem_toArray, List.getElem_cons_succ, List.getElem_cons_zero, List.setIfInBounds_toArray, List.set_cons_zero, List.set_cons_succ]
    refine S_take (i := 2) (v := .agg #[.int .i64 c.id, .int .i64 c.vw.size, .int .i64 c.obj, .int .i64 c.seq, .slice c.S c.sn.length c.cs', .bool c.vw.on, .bool c.vw.good, .slice c.vw.M c.vw.row.length c.vw.cm, .string (strOf c.vw.par), .int .i64 c.vw.ps, .int .i64 c.vw.ov, .int .i64 c.ow, .int .i64 c.it, .int .i64 c.tg]) rfl rfl (by kernel_rfl) (by kernel_rfl) (by kernel_rfl) (fun _ _ _ h => h) (Or.inl ⟨by rfl, fun W' hw => by have k0 : W'.cell? ⟨g, 0, none⟩ = some (.int .i64 c.id) := (HB1.out W' (HB2.out.trans (hw.mono HB2.out.size))).cell 0; have k1 : W'.cell? ⟨g, 1, none⟩ = some (.int .i64 c.vw.size) := (HB1.out W' (HB2.out.trans (hw.mono HB2.out.size))).cell 1; have k2 : W'.cell? ⟨g, 2, none⟩ = some (.int .i64 c.obj) := (HB1.out W' (HB2.out.trans (hw.mono HB2.out.size))).cell 2; have k3 : W'.cell? ⟨g, 3, none⟩ = some (.int .i64 c.seq) := (HB1.out W' (HB2.out.trans (hw.mono HB2.out.size))).cell 3; have k4 : W'.cell? ⟨g, 4, none⟩ = some (.slice c.S c.sn.length c.cs') := (HB1.out W' (HB2.out.trans (hw.mono HB2.out.size))).cell 4; have k5 : W'.cell? ⟨g, 5, none⟩ = some (.bool c.vw.on) := (HB1.out W' (HB2.out.trans (hw.mono HB2.out.size))).cell 5; have k6 : W'.cell? ⟨g, 6, none⟩ = some (.bool c.vw.good) := (HB1.out W' (HB2.out.trans (hw.mono HB2.out.size))).cell 6; have k7 : W'.cell? ⟨g, 7, none⟩ = some (.slice c.vw.M c.vw.row.length c.vw.cm) := (HB1.out W' (HB2.out.trans (hw.mono HB2.out.size))).cell 7; have k8 : W'.cell? ⟨g, 8, none⟩ = some (.string (strOf c.vw.par)) := (HB1.out W' (HB2.out.trans (hw.mono HB2.out.size))).cell 8; have k9 : W'.cell? ⟨g, 9, none⟩ = some (.int .i64 c.vw.ps) := (HB1.out W' (HB2.out.trans (hw.mono HB2.out.size))).cell 9; have k10 : W'.cell? ⟨g, 10, none⟩ = some (.int .i64 c.vw.ov) := (HB1.out W' (HB2.out.trans (hw.mono HB2.out.size))).cell 10; have k11 : W'.cell? ⟨g, 11, none⟩ = some (.int .i64 c.ow) := (HB1.out W' (HB2.out.trans (hw.mono HB2.out.size))).cell 11; have k12 : W'.cell? ⟨g, 12, none⟩ = some (.int .i64 c.it) := (HB1.out W' (HB2.out.trans (hw.mono HB2.out.size))).cell 12; have k13 : W'.cell? ⟨g, 13, none⟩ = some (.int .i64 c.tg) := (HB1.out W' (HB2.out.trans (hw.mono HB2.out.size))).cell 13; go_simp⟩) hS ?_
    simp only [Act.put, List.getElem_toArray, List.getElem_cons_succ, List.getElem_cons_zero, List.setIfInBounds_toArray, List.set_cons_zero, List.set_cons_succ]
    refine S_take (i := 3) (v := .int .i64 t) rfl rfl (by kernel_rfl) (by kernel_rfl) (by kernel_rfl) (fun _ _ _ h => h) (Or.inl ⟨by rfl, fun W' hw => by have k1 := (HKN.out W' (HB2.out.trans (hw.mono HB2.out.size))).1; go_simp⟩) hS ?_
    simp only [Act.put, List.getElem_toArray, List.getElem_cons_succ, List.getElem_cons_zero, List.setIfInBounds_toArray, List.set_cons_zero, List.set_cons_succ]
    refine L_one (j := 4) (by kernel_rfl) rfl (by rfl) ?_
    simp only [Act.put, List.getElem_toArray, List.getElem_cons_succ, List.getElem_cons_zero, List.setIfInBounds_toArray, List.set_cons_zero, List.set_cons_succ]
    refine wp_called (by go_simp) (HNM.out _ (HB2.out.trans (hS.mono HB2.out.size))) ?_
    rintro e w3 ⟨rfl, b⟩
    have hS : Below w2.heap.size w2 w3 := hS.trans (b.mono hS.size)
    clear b
    refine ⟨_, rfl, hS, ?_⟩
    simp only [Act.put, List.getElem_toArray, List.getElem_cons_succ, List.getElem_cons_zero, List.setIfInBounds_toArray, List.set_cons_zero, List.set_cons_succ]
    refine S_take (i := 5) (v := .int .i64 (idxN c.v t)) rfl rfl (by kernel_rfl) (by kernel_rfl) (by kernel_rfl) (fun _ _ _ h => h) (Or.inl ⟨by rfl, fun W' hw => by go_simp⟩) hS ?_
    simp only [Act.put, List.getElem_toArray, List.getElem_cons_succ, List.getElem_cons_zero, List.setIfInBounds_toArray, List.set_cons_zero, List.set_cons_succ]
    refine L_done (by kernel_rfl) ?_
    refine NoPanic.normal ?_
    have HB3 : Hid (Below W.heap.size W w3) := Lib.hid (HB2.out.trans (hS.mono HB2.out.size))
    have KV3 := Lib.hid (K2.of (hS.block _ K2.lt))
    clear hS K2
    by_cases ci : idxN c.v t < 0
    · have di : decide (idxN c.v t < 0) = true := decide_eq_true ci
      have HCI := Lib.hid ci
      clear ci
      go_wp2
      go_ret
      exact ⟨Frm.of (HB3.out.mono HK.out.2.2.1), .inl ⟨6, rfl, by omega, .inl ⟨HC0.out, HCI.out, rfl⟩⟩⟩
    obtain ⟨i, sv, hix, hsv, -⟩ := idx_at (fun s : SnV => s.num == t) c.v.sn (by unfold idxN at ci; omega)
    have hix : idxN c.v t = i := hix
    obtain ⟨s, hs, hss⟩ : ∃ s : SA, c.sn[i]? = some s ∧ s.v = sv := by
      have h : (c.sn.map SA.v)[i]? = some sv := hsv
      rw [List.getElem?_map] at h
      cases h9 : c.sn[i]? with
      | none => rw [h9] at h; cases h
      | some s => rw [h9] at h; injection h with h; exact ⟨s, rfl, h⟩
    subst hss
    obtain ⟨gS, hSg, hgS, hgW, hcl⟩ := sn_at HK.out.2.1 hs
    have HS9 := Lib.hid (And.intro hix (And.intro hsv (And.intro hs (And.intro hSg (And.intro hgW hcl)))))
    have hlt : i < c.sn.length := (List.getElem?_eq_some_iff.1 hs).1
    rw [hix]
    have di : decide ((i : Int) < 0) = false := decide_eq_false (by omega)
    have q4 : w3.cell? ⟨g, 4, none⟩ = some (.slice (some ⟨gS, 0, none⟩) c.sn.length c.cs') := by
      have h := (HB1.out _ HB3.out).cell 4
      rw [h, ← hSg]
      rfl
    have HOS := Lib.hid (ofsnap_any w3 gS (i * 11) s (Nat.lt_of_lt_of_le hgW HB3.out.size) ((HB3.out.cell (by show gS < _; exact hgW)).trans (hcl 3 _ rfl)) ((HB3.out.cell (by show gS < _; exact hgW)).trans (hcl 6 _ rfl)))
    clear hix hsv hs hSg hgW hcl hgS ci
    go_wp2_with fail
    refine HOS.out.mono ?_
    rintro e w4a ⟨rfl, b4⟩
    have K4a := KV3.out.of (b4.block _ KV3.out.lt)
    have HB4 : Hid (Below W.heap.size W w4a) := Lib.hid (HB3.out.trans (b4.mono HB3.out.size))
    clear b4 q4 HOS KV3
    go_upto_region 7 with (have _h := K4a; refine wpList_storeq rfl 163 (.tmp 5) (.tmp 27) rfl w1.heap.size _ [.bool s.vw.on, .pointer (some ⟨gS, i * 11 + 4, none⟩), .slice s.vw.M s.vw.row.length s.vw.cm] rfl rfl K4a (by simp) (by kernel_rfl) (by intro u hu; simp at hu; rcases hu with h | h | h <;> subst h <;> rfl) ?_; clear _h K4a; intro w4 KV o4 s4; have HB9 : Hid (Below W.heap.size W w4) := Lib.hid (HB4.out.trans (o4.below (fun q hq => by simp at hq; have := B1.out.2; omega) HB4.out.size)); clear o4 s4)
    have HBW : Hid (Below W.heap.size W w4) := Lib.hid HB9.out
    have HKV := Lib.hid KV
    have q0 : w4.cell? ⟨w1.heap.size, 0, none⟩ = some (.bool s.vw.on) := KV.cell 0
    clear KV
    cases hon : s.vw.on with
    | false =>
      have HON := Lib.hid hon
      rw [hon] at q0
      clear hon
      go_wp2
      go_ret
      exact ⟨Frm.of (HBW.out.mono HK.out.2.2.1), .inl ⟨13, rfl, by omega, .inr ⟨s.v.mx, .inr ⟨HC0.out, i, s.v, HS9.out.1, HS9.out.2.1, rfl⟩, .inl ⟨HON.out, rfl⟩⟩⟩⟩
    | true =>
      have HON : Hid (s.vw.on = true) := Lib.hid hon
      rw [hon] at q0
      clear hon
      have qm : w4.cell? ⟨gm, 0, none⟩ = some (.slice Am m.length cm) := (HKN.out _ HBW.out).2.1
      by_cases hgd : Good m
      rotate_left
      · have HGD := Lib.hid hgd
        have HPT := Lib.hid (put_bad Am m.length cm base m w4 HM.out (HKN.out _ HBW.out).2.2 hgd)
        clear hgd
        go_wp2_with fail
        refine HPT.out.mono ?_
        rintro e w5 ⟨rfl, rfl⟩
        simp only [errV]
        go_wp2
        go_ret
        exact ⟨Frm.of (HBW.out.mono HK.out.2.2.1), .inl ⟨1, rfl, by omega, .inr ⟨s.v.mx, .inr ⟨HC0.out, i, s.v, HS9.out.1, HS9.out.2.1, rfl⟩, .inr ⟨HON.out, .inl HGD.out, rfl⟩⟩⟩⟩
      · have HGD := Lib.hid hgd
        have HPT := Lib.hid (put_ok Am m.length cm m w4 ((HKN.out _ HBW.out).2.2.more (Nat.le_trans HK.out.2.2.1 HBW.out.size)) hgd)
        clear hgd
        go_wp2_with fail
        refine HPT.out.mono ?_
        rintro e w5 ⟨rfl, _, b5⟩
        have HB5 := Lib.hid b5
        replace HBW : Hid (Below W.heap.size W w5) := Lib.hid (HBW.out.trans (b5.mono HBW.out.size))
        have KV5 : Blk w5 w1.heap.size 163 #[.bool s.vw.on, .pointer (some ⟨gS, i * 11 + 4, none⟩), .slice s.vw.M s.vw.row.length s.vw.cm] := HKV.out.of (b5.block _ HKV.out.lt)
        clear b5 HPT q0 qm
        have qm : w5.cell? ⟨gm, 0, none⟩ = some (.slice Am m.length cm) := (HKN.out _ HBW.out).2.1
        have q2 : w5.cell? ⟨w1.heap.size, 2, none⟩ = some (.slice s.vw.M s.vw.row.length s.vw.cm) := KV5.cell 2
        by_cases heq : m.length = s.vw.row.length
        rotate_left
        · have HEQ := Lib.hid heq
          have d9 : ((m.length : Int) != (s.vw.row.length : Int)) = true := by simp; omega
          clear heq
          go_wp2
          go_ret
          exact ⟨Frm.of (HBW.out.mono HK.out.2.2.1), .inl ⟨1, rfl, by omega, .inr ⟨s.v.mx, .inr ⟨HC0.out, i, s.v, HS9.out.1, HS9.out.2.1, rfl⟩, .inr ⟨HON.out, .inr HEQ.out, rfl⟩⟩⟩⟩
        · have HEQ := Lib.hid heq
          have d9 : ((m.length : Int) != (s.vw.row.length : Int)) = false := by simp; omega
          have HOW : Hid (Own w5 base (.slice s.vw.M s.vw.row.length s.vw.cm) s.vw.row.length s.vw.row) := Lib.hid ((HK.out.2.1.sn s (List.mem_of_getElem? HS9.out.2.2.1)).below HBW.out).vw.own
          have HBM : Hid (Bytes w5 base Am s.vw.row.length m) := Lib.hid (by have h := (HKN.out _ HBW.out).2.2; rw [heq] at h; exact h)
          have HTH : Hid (∀ w', Only (rowOf (.slice s.vw.M 0 0)) w5 w' → Blk w' w1.heap.size 163 #[.bool s.vw.on, .pointer (some ⟨gS, i * 11 + 4, none⟩), .slice s.vw.M s.vw.row.length s.vw.cm] ∧ w'.there gS (i * 11 + 4) 1) := Lib.hid fun w' ho => by
            have hvN := ((HK.out.2.1.sn s (List.mem_of_getElem? HS9.out.2.2.1)).below HBW.out).vw
            have hty : ∀ {q : Nat} {t : TypeId} {cs : Array Value}, Blk w5 q t cs → t ≠ 5 → q ∉ rowOf (.slice s.vw.M 0 0) := fun kq hne h => by obtain ⟨cs, kb⟩ := hvN.ty h; exact kb.ne_ kq (Ne.symm hne) rfl
            refine ⟨KV5.only ho (hty KV5 (by decide)), ?_⟩
            have h5 : w5.there gS (i * 11 + 4) 1 := (by
              have ho := (HK.out.2.1.below HBW.out).own
              rw [HS9.out.2.2.2.1] at ho
              intro q hq
              obtain rfl : q = 0 := by omega
              refine ⟨?_, own_frozen ho _⟩
              have h4 := (HBW.out.cell (p := ⟨gS, i * 11 + 4, none⟩) HS9.out.2.2.2.2.1).trans (HS9.out.2.2.2.2.2 4 _ rfl)
              rw [Nat.add_zero, h4]; rfl)
            have hgp : ∃ tt cs, Blk w5 gS tt cs ∧ tt ≠ 5 := by obtain ⟨csS, kS⟩ := own_ty (HK.out.2.1.below HBW.out).own (k := gS) (by rw [HS9.out.2.2.2.1]; simp [rowOf, Value.ownBlock]); exact ⟨_, _, kS, by decide⟩
            obtain ⟨tt, cs, kb, hne⟩ := hgp
            have e1 := ho.block gS kb.lt (hty kb hne)
            intro q hq
            obtain ⟨x1, x2⟩ := h5 q hq
            exact ⟨by rw [World.cell?_of_block (a := ⟨gS, (i * 11 + 4) + q, none⟩) e1]; exact x1, by rw [World.frozen?_of_block (a := ⟨gS, (i * 11 + 4) + q, none⟩) e1]; exact x2⟩
          rw [heq] at qm
          clear heq KV5
          go_wp2_with (first
            | (have _h := HOW; refine wpList_copy_row rfl (.tmp 49) (.tmp 50) 33 33 rfl 5 Try.underlying33 (by kernel_rfl) s.vw.M s.vw.row.length s.vw.cm base s.vw.row HOW.out rfl Am cm base m rfl HBM.out ?_; clear _h HOW; intro w6 h6 o6; have HO6 := Lib.hid (And.intro h6 o6); have q1 : w6.cell? ⟨w1.heap.size, 1, none⟩ = some (.pointer (some ⟨gS, i * 11 + 4, none⟩)) := (HTH.out w6 o6).1.cell 1; have HT6 := Lib.hid (HTH.out w6 o6).2; clear h6 o6)
            | (have _h := HT6; refine wpList_setth rfl 4 (.tmp 54) (.const (.bool true)) rfl gS (i * 11 + 4) (.bool true) rfl rfl HT6.out (by kernel_rfl) rfl ?_; clear _h HT6 HTH q1))
          go_ret
          have n5 := HK.out.2.1.below HBW.out
          have k5 := HK.out.1.of (HBW.out.block _ HK.out.1.lt)
          have h78 := foll_snap true (Nat.le_trans HK.out.2.2.1 HBW.out.size) HK.out.2.2.2.1 k5 n5 HK.out.2.2.2.2.1 HS9.out.2.2.2.1 HS9.out.2.2.1 (row := m) HEQ.out (fun y hy => Nat.lt_of_le_of_lt (HGD.out.2 y hy) (by omega)) HO6.out.2 HO6.out.1
          exact ⟨Frm.of ((HBW.out.mono HK.out.2.2.1).trans h78.2.2), .inr ⟨rfl, _, h78.1, h78.2.1, HGD.out, .inr ⟨HC0.out, i, s.v, HS9.out.1, HS9.out.2.1, HON.out, HEQ.out, by unfold HA.v HdV.setSn; simp only [List.map_set]; rfl⟩⟩⟩
end Go.Proofs.Ytiimanoloedbeaa

/-
  What Rebuilt answers. Conditions: the head reads as it is said to, and is small.
-/
namespace Go.Proofs.Ytiimanoloedbeaa
open Go.RowKit Go.BigFrame
set_option linter.unusedSimpArgs false
set_option linter.unusedVariables false
set_option maxRecDepth 100000
set_option maxHeartbeats 16000000 in
theorem rebuilt_any (h : HA) (w : World) (t : Int) (ht : I64 t) (Am : Option Addr) (cm : Nat) (m : List Nat) (hm : m.length ≤ 10000) (hbm : Bytes w w.heap.size Am m.length m) (hR : h.R SA.cells w) (hS : h.Sm) : Calls Try.prog 80 #[.agg h.cs, .int .i64 t, .slice Am m.length cm] w (AnsTo w h.v (fun k => RebE h.v t m k) (fun v => RebO h.v t m v)) := by
  obtain ⟨W1, hW1⟩ : ∃ W, W = (((w.alloc (.cells #[.int .i64 h.id, .int .i64 h.vw.size, .int .i64 h.obj, .int .i64 h.seq, .slice h.S h.sn.length h.cs', .bool h.vw.on, .bool h.vw.good, .slice h.vw.M h.vw.row.length h.vw.cm, .string (strOf h.vw.par), .int .i64 h.vw.ps, .int .i64 h.vw.ov, .int .i64 h.ow, .int .i64 h.it, .int .i64 h.tg] 36)).alloc (.cells #[.int .i64 t] 3)).alloc (.cells #[.slice Am m.length cm] 33)).alloc (.cells #[.int .i64 0, .int .i64 0, .int .i64 0, .int .i64 0, .slice none 0 0, .bool false, .bool false, .slice none 0 0, .string ⟨#[]⟩, .int .i64 0, .int .i64 0, .int .i64 0, .int .i64 0, .int .i64 0] 36) := ⟨_, rfl⟩
  have h1 : Below w.heap.size w W1 ∧ W1.heap.size = w.heap.size + 4 ∧ Blk W1 w.heap.size 36 #[.int .i64 h.id, .int .i64 h.vw.size, .int .i64 h.obj, .int .i64 h.seq, .slice h.S h.sn.length h.cs', .bool h.vw.on, .bool h.vw.good, .slice h.vw.M h.vw.row.length h.vw.cm, .string (strOf h.vw.par), .int .i64 h.vw.ps, .int .i64 h.vw.ov, .int .i64 h.ow, .int .i64 h.it, .int .i64 h.tg] ∧ Blk W1 (w.heap.size + 3) 36 #[.int .i64 0, .int .i64 0, .int .i64 0, .int .i64 0, .slice none 0 0, .bool false, .bool false, .slice none 0 0, .string ⟨#[]⟩, .int .i64 0, .int .i64 0, .int .i64 0, .int .i64 0, .int .i64 0] := by
    rw [hW1]
    refine ⟨((((below_alloc w _).alloc (by simp <;> omega) _).alloc (by simp <;> omega) _).alloc (by simp <;> omega) _), by simp, ((((Blk.new w _ _).alloc _).alloc _).alloc _), ?_⟩
    have := Blk.new (((w.alloc (.cells #[.int .i64 h.id, .int .i64 h.vw.size, .int .i64 h.obj, .int .i64 h.seq, .slice h.S h.sn.length h.cs', .bool h.vw.on, .bool h.vw.good, .slice h.vw.M h.vw.row.length h.vw.cm, .string (strOf h.vw.par), .int .i64 h.vw.ps, .int .i64 h.vw.ov, .int .i64 h.ow, .int .i64 h.it, .int .i64 h.tg] 36)).alloc (.cells #[.int .i64 t] 3)).alloc (.cells #[.slice Am m.length cm] 33)) 36 #[.int .i64 0, .int .i64 0, .int .i64 0, .int .i64 0, .slice none 0 0, .bool false, .bool false, .slice none 0 0, .string ⟨#[]⟩, .int .i64 0, .int .i64 0, .int .i64 0, .int .i64 0, .int .i64 0]
    simpa using this
  have p0 : Blk W1 (w.heap.size + 1) 3 #[.int .i64 t] := by
    have := Blk.new (w.alloc (.cells #[.int .i64 h.id, .int .i64 h.vw.size, .int .i64 h.obj, .int .i64 h.seq, .slice h.S h.sn.length h.cs', .bool h.vw.on, .bool h.vw.good, .slice h.vw.M h.vw.row.length h.vw.cm, .string (strOf h.vw.par), .int .i64 h.vw.ps, .int .i64 h.vw.ov, .int .i64 h.ow, .int .i64 h.it, .int .i64 h.tg] 36)) 3 #[.int .i64 t]
    rw [hW1]
    exact (((by simpa using this : Blk ((w.alloc (.cells #[.int .i64 h.id, .int .i64 h.vw.size, .int .i64 h.obj, .int .i64 h.seq, .slice h.S h.sn.length h.cs', .bool h.vw.on, .bool h.vw.good, .slice h.vw.M h.vw.row.length h.vw.cm, .string (strOf h.vw.par), .int .i64 h.vw.ps, .int .i64 h.vw.ov, .int .i64 h.ow, .int .i64 h.it, .int .i64 h.tg] 36)).alloc (.cells #[.int .i64 t] 3)) (w.heap.size + 1) 3 #[.int .i64 t]).alloc _).alloc _)
  have p1 : Blk W1 (w.heap.size + 2) 33 #[.slice Am m.length cm] := by
    have := Blk.new ((w.alloc (.cells #[.int .i64 h.id, .int .i64 h.vw.size, .int .i64 h.obj, .int .i64 h.seq, .slice h.S h.sn.length h.cs', .bool h.vw.on, .bool h.vw.good, .slice h.vw.M h.vw.row.length h.vw.cm, .string (strOf h.vw.par), .int .i64 h.vw.ps, .int .i64 h.vw.ov, .int .i64 h.ow, .int .i64 h.it, .int .i64 h.tg] 36)).alloc (.cells #[.int .i64 t] 3)) 33 #[.slice Am m.length cm]
    rw [hW1]
    exact ((by simpa using this : Blk (((w.alloc (.cells #[.int .i64 h.id, .int .i64 h.vw.size, .int .i64 h.obj, .int .i64 h.seq, .slice h.S h.sn.length h.cs', .bool h.vw.on, .bool h.vw.good, .slice h.vw.M h.vw.row.length h.vw.cm, .string (strOf h.vw.par), .int .i64 h.vw.ps, .int .i64 h.vw.ov, .int .i64 h.ow, .int .i64 h.it, .int .i64 h.tg] 36)).alloc (.cells #[.int .i64 t] 3)).alloc (.cells #[.slice Am m.length cm] 33)) (w.heap.size + 2) 33 #[.slice Am m.length cm]).alloc _)
  have HCH := Lib.hid (change_any h W1 (hR.since h1.1) hS 132 (fun args w => by kernel_rfl) #[.pointer (some ⟨w.heap.size + 1, 0, none⟩), .pointer (some ⟨w.heap.size + 2, 0, none⟩)] [] (fun k hk => by cases hk) (fun k _ => RebE h.v t m k) (fun v _ => RebO h.v t m v) (fun _ _ _ _ p => p) (fun _ _ _ _ p => p) (fun W base g c hb1 hb2 hbw hg hk hN hD hcv hB => by
    rw [← hcv]; exact reb1_any W base g c (w.heap.size + 1) (w.heap.size + 2) cm t Am m hb2 hg hk hN hD (few_small hcv hS) ht (by have := h1.2.1; omega) (by have := h1.2.1; omega) ((p0.of (hbw.block _ p0.lt)).cell 0) ((p1.of (hbw.block _ p1.lt)).cell 0) hm (((hbm.below h1.1).below (hbw.mono h1.1.size)).more (by have := h1.1.size; omega))))
  have HW1 := Lib.hid hW1
  have H1 := Lib.hid h1
  clear hW1 h1 hR hS p0 p1
  unfold HA.cs at *
  have hz := head_zero
  go_enter Try.func80, Try.ntmps80
  go_upto_region 1 with (fail)
  rw [← HW1.out]
  clear HW1
  have K1 := H1.out.2.2.1
  go_wp2_with (have _h := K1; refine wpList_loadq rfl 36 (.tmp 3) rfl (w.heap.size) [.int .i64 h.id, .int .i64 h.vw.size, .int .i64 h.obj, .int .i64 h.seq, .slice h.S h.sn.length h.cs', .bool h.vw.on, .bool h.vw.good, .slice h.vw.M h.vw.row.length h.vw.cm, .string (strOf h.vw.par), .int .i64 h.vw.ps, .int .i64 h.vw.ov, .int .i64 h.ow, .int .i64 h.it, .int .i64 h.tg] _ rfl K1 Try.underlying36 rfl (by kernel_rfl) ?_; clear _h K1)
  refine HCH.out.mono ?_
  rintro e w2 ⟨f2, h2⟩
  have b2 : Below W1.heap.size W1 w2 := f2.below
  have K2 : Blk w2 (w.heap.size + 3) 36 #[.int .i64 0, .int .i64 0, .int .i64 0, .int .i64 0, .slice none 0 0, .bool false, .bool false, .slice none 0 0, .string ⟨#[]⟩, .int .i64 0, .int .i64 0, .int .i64 0, .int .i64 0, .int .i64 0] := H1.out.2.2.2.of (b2.block _ H1.out.2.2.2.lt)
  have HB2 : Hid (Below w.heap.size w w2) := Lib.hid (H1.out.1.trans (b2.mono H1.out.1.size))
  have hz2 := HB2.out.size
  have HR2 := Lib.hid K2
  clear b2 f2 HCH
  rcases h2 with ⟨hB, rfl⟩ | ⟨hB, k, rfl, hk0, hpe⟩ | ⟨hB, q, rfl, hqN, hpo⟩
  · have HH := Lib.hid hB
    clear hB
    simp only [errV, Z14]
    go_wp2_with (have _h := K2; refine wpList_storeq rfl 36 (.tmp 6) (.tmp 11) rfl (w.heap.size + 3) _ [.int .i64 0, .int .i64 0, .int .i64 0, .int .i64 0, .slice none 0 0, .bool false, .bool false, .slice none 0 0, .string ⟨#[]⟩, .int .i64 0, .int .i64 0, .int .i64 0, .int .i64 0, .int .i64 0] rfl rfl K2 (by simp) (by kernel_rfl) (one14 _ _ _ _ _ _ _ _ _ _ _ _ _ _ _ _ _ _) ?_; clear _h K2; intro w9 K9 o9 s9)
    refine bodyPost_ret (results_cell_tmp9 rfl _ _ (w.heap.size + 3) 36 _ (0, 0) _ _ rfl rfl K9 Try.underlying36 rfl (by kernel_rfl)) rfl ?_
    exact ⟨HB2.out.trans (o9.below (fun x hx => by simp at hx; omega) hz2), .inl ⟨HH.out, rfl⟩⟩
  · obtain ⟨k, rfl⟩ : ∃ k', k = k' + 1 := ⟨k - 1, by omega⟩
    have HH := Lib.hid (And.intro hB hpe)
    clear hB hpe hk0
    simp only [errV, Z14]
    go_wp2_with (have _h := K2; refine wpList_storeq rfl 36 (.tmp 6) (.tmp 11) rfl (w.heap.size + 3) _ [.int .i64 0, .int .i64 0, .int .i64 0, .int .i64 0, .slice none 0 0, .bool false, .bool false, .slice none 0 0, .string ⟨#[]⟩, .int .i64 0, .int .i64 0, .int .i64 0, .int .i64 0, .int .i64 0] rfl rfl K2 (by simp) (by kernel_rfl) (one14 _ _ _ _ _ _ _ _ _ _ _ _ _ _ _ _ _ _) ?_; clear _h K2; intro w9 K9 o9 s9)
    refine bodyPost_ret (results_cell_tmp9 rfl _ _ (w.heap.size + 3) 36 _ (0, 0) _ _ rfl rfl K9 Try.underlying36 rfl (by kernel_rfl)) rfl ?_
    exact ⟨HB2.out.trans (o9.below (fun x hx => by simp at hx; omega) hz2), .inr (.inl ⟨HH.out.1, k + 1, rfl, by omega, HH.out.2⟩)⟩
  · have HH := Lib.hid (And.intro hB (And.intro hqN hpo))
    clear hB hqN hpo
    unfold HA.cs
    go_wp2_with (have _h := K2; refine wpList_storeq rfl 36 (.tmp 6) (.tmp 11) rfl (w.heap.size + 3) _ [.int .i64 q.id, .int .i64 q.vw.size, .int .i64 q.obj, .int .i64 q.seq, .slice q.S q.sn.length q.cs', .bool q.vw.on, .bool q.vw.good, .slice q.vw.M q.vw.row.length q.vw.cm, .string (strOf q.vw.par), .int .i64 q.vw.ps, .int .i64 q.vw.ov, .int .i64 q.ow, .int .i64 q.it, .int .i64 q.tg] rfl rfl K2 (by simp) (by kernel_rfl) (one14 _ _ _ _ _ _ _ _ _ _ _ _ _ _ _ _ _ _) ?_; clear _h K2; intro w9 K9 o9 s9)
    refine bodyPost_ret (results_cell_tmp9 rfl _ _ (w.heap.size + 3) 36 _ (0, 0) _ _ rfl rfl K9 Try.underlying36 rfl (by kernel_rfl)) rfl ?_
    exact ⟨HB2.out.trans (o9.below (fun x hx => by simp at hx; omega) hz2), .inr (.inr ⟨HH.out.1, q, rfl, (HH.out.2.1.stay HR2.out o9).weaken (by have := H1.out.2.1; omega), HH.out.2.2⟩)⟩
end Go.Proofs.Ytiimanoloedbeaa

/-
  What is made and undone is as it was: heads as data. No condition; nothing of the program is named.
-/
namespace Go.Proofs.Ytiimanoloedbeaa
open Go.RowKit Go.BigFrame
set_option linter.unusedSimpArgs false
set_option linter.unusedVariables false
set_option maxRecDepth 100000
/-- no snapshot has more children than so many -/
def Few (m : Nat) (v : HdV) : Prop := ∀ s ∈ v.sn, s.ch.length ≤ m
theorem Few.mono {m n : Nat} {v : HdV} (h : Few m v) (hmn : m ≤ n) : Few n v := fun s hs => Nat.le_trans (h s hs) hmn
theorem mk_short {m : MkV} {n : Int} (h : m.B n = true) : m.row.length ≤ 256 := by
  rcases (mkB_iff m n).1 h with ⟨_, h, _⟩ | ⟨_, h, _⟩
  · exact h.1
  · rw [h]; simp
theorem lk_short {l : LkV} {n : Int} (h : l.B n = true) : l.par.length ≤ 20 := by
  rcases (lkB_iff l n).1 h with ⟨h, _⟩ | ⟨_, h, _⟩
  · rw [h]; simp
  · exact (named_len h).2
theorem sm_good {q : HA} (hB : q.v.B = true) (hf : Few 10000 q.v) : q.Sm := by
  have h4 := (vw_iff _ _ _ _).1 ((B_iff q.v).1 hB).2.2.2.1
  have h5 := (sns_iff q.v).1 ((B_iff q.v).1 hB).2.2.2.2.1
  have hn : q.sn.length ≤ 16 := by have := h5.few; simpa [HA.v] using this
  have hr : q.vw.row.length ≤ 256 := mk_short h4.2.2.1
  have hp : q.vw.par.length ≤ 20 := lk_short h4.2.2.2
  refine ⟨⟨by omega, by omega⟩, by omega, fun s hs => ?_⟩
  have hm : s.v ∈ q.v.sn := List.mem_map.2 ⟨s, hs, rfl⟩
  have hg := (h5.all s.v hm).2
  have h6 := (vw_iff _ _ _ _).1 hg.vw
  have hr : s.vw.row.length ≤ 256 := mk_short h6.2.2.1
  have hp : s.vw.par.length ≤ 20 := lk_short h6.2.2.2
  have hnm : s.name.length ≤ 20 := (named_len hg.name).2
  have hch : s.ch.length ≤ 10000 := hf s.v hm
  refine ⟨⟨by omega, by omega⟩, by omega, hch, fun c hc => ?_⟩
  have := (named_len (((up_nil _).1 hg.up).1 c hc)).2
  omega
end Go.Proofs.Ytiimanoloedbeaa

/-
  A call of package rules as data, what it makes of a head, and that a good head stays good. No condition.
-/
namespace Go.Proofs.Ytiimanoloedbeaa
open Go.RowKit Go.BigFrame
set_option linter.unusedSimpArgs false
set_option linter.unusedVariables false
set_option maxRecDepth 100000
/-- a call, and where its marks lie -/
structure CA where
  kind : Int
  n : Int
  m : Int
  name : List Nat
  child : List Nat
  A : Option Addr
  row : List Nat
  cm : Nat
  on : Bool
  good : Bool
def CA.cells (x : CA) : List Value := [.int .i64 x.kind, .int .i64 x.n, .int .i64 x.m, .string (strOf x.name), .string (strOf x.child), .slice x.A x.row.length x.cm, .bool x.on, .bool x.good]
structure CA.R (x : CA) (w : World) : Prop where
  name : ∀ b ∈ x.name, b < 256
  child : ∀ b ∈ x.child, b < 256
  row : Bytes w w.heap.size x.A x.row.length x.row
  kind : I64 x.kind
  n : I64 x.n
  m : I64 x.m
  c1 : x.row.length ≤ x.cm
  l1 : x.row.length ≤ 9223372036854775807
  l2 : x.name.length ≤ 9223372036854775807
  l3 : x.child.length ≤ 9223372036854775807
theorem CA.R.since {x : CA} {w w' : World} (h : x.R w) (hb : Below w.heap.size w w') : x.R w' := ⟨h.name, h.child, (h.row.since hb).more hb.size, h.kind, h.n, h.m, h.c1, h.l1, h.l2, h.l3⟩
structure CA.Sm (x : CA) : Prop where
  lo : 1 ≤ x.kind
  hi : x.kind ≤ 15
  name : x.name.length ≤ 100
  child : x.child.length ≤ 100
  row : x.row.length ≤ 500
/-- the mark that a call asks for -/
def mB (m : Int) : Nat := if 0 ≤ m ∧ m < 9 then m.toNat else 9
/-- what goes wrong -/
def CallE (v : HdV) (x : CA) (k : Nat) : Prop :=
  (v.B = false ∧ k = 2) ∨ (v.B = true ∧ (
  (x.kind = 1 ∧ AcqE v x.n k) ∨ (x.kind = 2 ∧ RelE v x.n k) ∨ (x.kind = 3 ∧ BrkE v k) ∨ (x.kind = 4 ∧ OwnsE v x.n k) ∨ (x.kind = 5 ∧ SnpE v x.name k) ∨ (x.kind = 6 ∧ ChsEP v x.name (ProE v.it v.tg) k) ∨ (x.kind = 7 ∧ ChsEP v x.name UnpE k) ∨ (x.kind = 8 ∧ ChsEP v x.name (AddE x.child) k) ∨
  (x.kind = 9 ∧ DroE v x.n x.child k) ∨ (x.kind = 10 ∧ GroE v x.n k) ∨ (x.kind = 11 ∧ k = refB v x.n x.m) ∨ (x.kind = 12 ∧ FinE v k) ∨ (x.kind = 13 ∧ MarE v x.n (mB x.m) k) ∨ (x.kind = 14 ∧ RebE v x.n x.row k) ∨ (x.kind = 15 ∧ MtE x.on x.good k)))
/-- what comes of it -/
def CallO (v : HdV) (x : CA) (v' : HdV) : Prop :=
  (x.kind = 1 ∧ AcqO v x.n v') ∨ (x.kind = 2 ∧ RelO v x.n v') ∨ (x.kind = 3 ∧ BrkO v v') ∨ (x.kind = 4 ∧ OwnsO v x.n v') ∨ (x.kind = 5 ∧ SnpO v x.name v') ∨ (x.kind = 6 ∧ ChsOP v x.name (fun i s v' => ProO v.it v.tg s ∧ v' = v.setSn i { s with prot := true }) v') ∨ (x.kind = 7 ∧ ChsOP v x.name (fun i s v' => UnpO s ∧ v' = v.setSn i { s with prot := false }) v') ∨
  (x.kind = 8 ∧ ChsOP v x.name (fun i s v' => ∃ s', AddO x.child s s' ∧ v' = v.setSn i s') v') ∨ (x.kind = 9 ∧ DroO v x.n x.child v') ∨ (x.kind = 10 ∧ GroO v x.n v') ∨ (x.kind = 11 ∧ BegO v x.n x.m v') ∨ (x.kind = 12 ∧ FinO v v') ∨ (x.kind = 13 ∧ MarO v x.n (mB x.m) v') ∨ (x.kind = 14 ∧ RebO v x.n x.row v') ∨ (x.kind = 15 ∧ MtO v x.on x.good v')
theorem own_B {v v' : HdV} {n : Int} (h : OwnsO v n v') (hB : v.B = true) : v'.B = true := by
  obtain ⟨_, rfl⟩ := h
  exact hB
theorem rel_B {v v' : HdV} {n : Int} (h : RelO v n v') (hB : v.B = true) : v'.B = true := by
  obtain ⟨_, _, rfl⟩ := h
  exact free_B hB
theorem brk_B {v v' : HdV} (h : BrkO v v') (hB : v.B = true) : v'.B = true := by
  obtain ⟨_, rfl⟩ := h
  exact free_B hB
theorem new_mk {mx : MkV} {n : Int} {m : List Nat} (h : mx.B n = true) (hon : mx.on = true) (hg : Good m) (hl : m.length = mx.row.length) : (⟨mx.on, true, m⟩ : MkV).B n = true := by
  rcases (mkB_iff _ _).1 h with ⟨_, _, h3⟩ | ⟨h1, _⟩
  · exact (mkB_iff _ _).2 (.inl ⟨hon, hg, by show (m.length : Int) = n; rw [hl]; exact h3⟩)
  · rw [hon] at h1; cases h1
theorem reb_B {v v' : HdV} {t : Int} {m : List Nat} (h : RebO v t m v') (hB : v.B = true) : v'.B = true := by
  obtain ⟨hg, ⟨_, hon, hl, rfl⟩ | ⟨_, i, s, _, hs, hon, hl, rfl⟩⟩ := h
  · rw [B_iff] at hB ⊢
    obtain ⟨a, b, c, d, e, f, g, i⟩ := hB
    obtain ⟨d1, d2, d3, d4⟩ := (vw_iff _ _ _ _).1 d
    exact ⟨a, b, c, (vw_iff _ _ _ _).2 ⟨d1, d2, new_mk d3 hon hg hl, d4⟩, e, f, g, i⟩
  · refine setSn_B hB hs rfl rfl fun h => ⟨h.le, h.name, ?_, h.up, h.pr⟩
    obtain ⟨d1, d2, d3, d4⟩ := (vw_iff _ _ _ _).1 h.vw
    exact (vw_iff _ _ _ _).2 ⟨d1, d2, new_mk d3 hon hg hl, d4⟩
theorem call_B {v v' : HdV} {x : CA} (h : CallO v x v') (hB : v.B = true) (hq : v.seq ≤ 9223372036854775807) : v'.B = true := by
  rcases h with ⟨_, h⟩ | ⟨_, h⟩ | ⟨_, h⟩ | ⟨_, h⟩ | ⟨_, h⟩ | ⟨_, i, s, _, hs, _, rfl⟩ | ⟨_, i, s, _, hs, hu, rfl⟩ | ⟨_, i, s, _, hs, s', ha, rfl⟩ | ⟨_, h⟩ | ⟨_, h⟩ | ⟨_, h⟩ | ⟨_, h⟩ | ⟨_, h⟩ | ⟨_, h⟩ | ⟨_, h⟩
  · exact acq_B h hB
  · exact rel_B h hB
  · exact brk_B h hB
  · exact own_B h hB
  · exact snp_B h hB hq
  · exact pro_B hB hs
  · exact unp_B hB hs hu.2
  · exact add_B hB hs ha
  · exact dro_B hB h
  · exact gro_B h hB
  · exact beg_B h hB
  · exact fin_B h hB
  · exact mar_B h hB
  · exact reb_B h hB
  · exact mt_B h hB
theorem few_set {m : Nat} {v : HdV} {i : Nat} {s' : SnV} (h : Few m v) (hs : s'.ch.length ≤ m) : Few m (v.setSn i s') := fun s hm => by
  rcases List.mem_or_eq_of_mem_set hm with hm | rfl
  · exact h s hm
  · exact hs
theorem few_same {m : Nat} {v v' : HdV} (h : Few m v) (e : v'.sn = v.sn) : Few m v' := fun s hs => h s (e ▸ hs)
theorem call_few {m : Nat} {v v' : HdV} {x : CA} (h : CallO v x v') (hf : Few m v) : Few (m + 1) v' := by
  have hat : ∀ {i : Nat} {s : SnV}, v.sn[i]? = some s → s.ch.length ≤ m := fun hs => hf _ (List.mem_of_getElem? hs)
  rcases h with ⟨_, _, _, _, rfl⟩ | ⟨_, _, _, rfl⟩ | ⟨_, _, rfl⟩ | ⟨_, _, rfl⟩ | ⟨_, _, _, _, _, _, rfl⟩ | ⟨_, i, s, _, hs, _, rfl⟩ | ⟨_, i, s, _, hs, _, rfl⟩ | ⟨_, i, s, _, hs, s', ⟨_, _, j, hj, rfl⟩, rfl⟩ | ⟨_, i, s, _, hs, j, _, rfl⟩ | ⟨_, _, _, _, rfl⟩ | ⟨_, _, rfl⟩ | ⟨_, h⟩ | ⟨_, _, _, _, rfl⟩ | ⟨_, _, h⟩ | ⟨_, _, rfl⟩
  · exact (few_same hf rfl).mono (by omega)
  · exact (few_same hf rfl).mono (by omega)
  · exact (few_same hf rfl).mono (by omega)
  · exact hf.mono (by omega)
  · intro s hs
    have hs : s ∈ v.sn ++ [_] := hs
    rcases List.mem_append.1 hs with hs | hs
    · have := hf s hs; omega
    · obtain rfl := List.mem_singleton.1 hs
      simp
  · exact Few.mono (m := m) (few_set hf (by show s.ch.length ≤ m; exact hat hs)) (by omega)
  · exact Few.mono (m := m) (few_set hf (by show s.ch.length ≤ m; exact hat hs)) (by omega)
  · refine few_set (hf.mono (by omega)) ?_
    show (s.ch.take j ++ x.child :: s.ch.drop j).length ≤ m + 1
    have := hat hs
    simp only [List.length_append, List.length_take, List.length_cons, List.length_drop]
    have := hj.le
    omega
  · refine (few_set hf ?_).mono (by omega)
    show (s.ch.eraseIdx j).length ≤ m
    have := hat hs
    have := (List.eraseIdx_sublist s.ch j).length_le
    omega
  · exact (few_same hf rfl).mono (by omega)
  · exact (few_same hf rfl).mono (by omega)
  · rcases h with ⟨_, rfl⟩ | ⟨_, i, s, _, hs, rfl⟩ | ⟨_, i, s, _, hs, rfl⟩ | ⟨_, rfl⟩
    · exact (few_same hf rfl).mono (by omega)
    · exact (few_same hf rfl).mono (by omega)
    · have : Few m (remV v i s) := by
        unfold remV
        split
        · rename_i n hn
          intro y hy
          have hy : y ∈ (v.sn.set (i + 1) (n.foll s.mx)).eraseIdx i := hy
          have h2 := (List.eraseIdx_sublist _ _).subset hy
          rcases List.mem_or_eq_of_mem_set h2 with h2 | rfl
          · exact hf y h2
          · show n.ch.length ≤ m; exact hat hn
        · intro y hy
          exact hf y ((List.eraseIdx_sublist _ _).subset hy)
      exact (few_same this rfl).mono (by omega)
    · exact (few_same hf rfl).mono (by omega)
  · split
    · exact (few_same hf rfl).mono (by omega)
    · exact hf.mono (by omega)
  · rcases h with ⟨_, _, _, rfl⟩ | ⟨_, i, s, _, hs, _, _, rfl⟩
    · exact (few_same hf rfl).mono (by omega)
    · exact (few_set hf (by show s.ch.length ≤ m; exact hat hs)).mono (by omega)
  · exact (few_same hf rfl).mono (by omega)
end Go.Proofs.Ytiimanoloedbeaa

/-
  The fixed fact of the law of package rules. No condition.
-/
namespace Go.Proofs.Ytiimanoloedbeaa
open Go.RowKit Go.BigFrame
set_option linter.unusedSimpArgs false
set_option linter.unusedVariables false
set_option maxRecDepth 100000
/-- a head in a variable -/
structure Loc (w : World) (g : Nat) (q : HA) : Prop where
  blk : Blk w g 36 q.cs
  R : q.R SA.cells w
theorem Loc.below {w w' : World} {g : Nat} {q : HA} (h : Loc w g q) (hb : Below w.heap.size w w') : Loc w' g q := ⟨h.blk.of (hb.block g h.blk.lt), h.R.since hb⟩
theorem new_below {w w2 : World} {ob : Obj} (o : Only [w.heap.size] (w.alloc ob) w2) : Below w.heap.size w w2 := (below_alloc w ob).trans (o.below (fun x hx => by simp at hx; omega) (by simp))
theorem new_loc {w w2 : World} {ob : Obj} {q : HA} (hR : q.R SA.cells w) (o : Only [w.heap.size] (w.alloc ob) w2) (k : Blk w2 w.heap.size 36 q.cs) : Loc w2 w.heap.size q := ⟨k, hR.since (new_below o)⟩
/-- a call that has no error -/
theorem ans_ok {w w' : World} {v : HdV} {PE : Nat → Prop} {PO : HdV → Prop} {e : Ending} (h : AnsTo w v PE PO e w') (hB : v.B = true) (hE : ∀ k, ¬ PE k) : ∃ q : HA, e = .returned (.tuple #[.agg q.cs, .nilIface]) ∧ q.R SA.cells w' ∧ PO q.v ∧ Below w.heap.size w w' := by
  obtain ⟨b, h | ⟨_, k, _, _, hp⟩ | ⟨_, q, he, hN, ho⟩⟩ := h
  · rw [hB] at h; cases h.1
  · exact absurd hp (hE k)
  · exact ⟨q, he, hN.R, ho, b⟩
set_option maxHeartbeats 8000000 in
theorem ralive_any (w : World) : Calls Try.prog 25 #[] w fun e w' => e = .returned (.bool true) ∧ Below w.heap.size w w' := by
  have HA := Lib.hid (acquire_any a0 w 3 (by unfold I64; omega) (a0_R w) a0_Sm)
  have hcs : a0.cs = #[.int .i64 0, .int .i64 0, .int .i64 16, .int .i64 0, .slice none 0 0, .bool false, .bool false, .slice none 0 0, .string ⟨#[]⟩, .int .i64 0, .int .i64 0, .int .i64 (-1), .int .i64 0, .int .i64 0] := rfl
  rw [hcs] at HA
  have hz := head_zero
  clear hcs
  go_enter Try.func25, Try.ntmps25
  go_wp2_with fail
  refine HA.out.mono ?_
  rintro e w1 h
  obtain ⟨q, rfl, hR, ho, b1⟩ := ans_ok h a0_B (fun k hk => by
    rcases hk with ⟨h, _⟩ | ⟨_, _, h, _⟩
    · omega
    · exact h rfl)
  have hv : q.v = { a0.v with ow := 3 } := ho.2.2.2
  have how : q.ow = 3 := congrArg HdV.ow hv
  have hB : q.v.B = true := by rw [hv]; decide
  have hS : q.Sm := sm_good hB (by rw [hv]; exact fun s hs => (by cases hs))
  have H1 := Lib.hid (And.intro b1 (And.intro hR (And.intro hv (And.intro hB (And.intro hS how)))))
  have K1 : Blk (w1.alloc (.cells #[.int .i64 0, .int .i64 0, .int .i64 0, .int .i64 0, .slice none 0 0, .bool false, .bool false, .slice none 0 0, .string ⟨#[]⟩, .int .i64 0, .int .i64 0, .int .i64 0, .int .i64 0, .int .i64 0] 36)) w1.heap.size 36 #[.int .i64 0, .int .i64 0, .int .i64 0, .int .i64 0, .slice none 0 0, .bool false, .bool false, .slice none 0 0, .string ⟨#[]⟩, .int .i64 0, .int .i64 0, .int .i64 0, .int .i64 0, .int .i64 0] := Blk.new _ _ _
  clear h ho b1 hR hv hB hS HA how
  unfold HA.cs
  go_wp2_with (first
    | (have _h := K1; refine wpList_storeq rfl 36 (.tmp 1) (.tmp 8) rfl (w1.heap.size) _ [.int .i64 q.id, .int .i64 q.vw.size, .int .i64 q.obj, .int .i64 q.seq, .slice q.S q.sn.length q.cs', .bool q.vw.on, .bool q.vw.good, .slice q.vw.M q.vw.row.length q.vw.cm, .string (strOf q.vw.par), .int .i64 q.vw.ps, .int .i64 q.vw.ov, .int .i64 q.ow, .int .i64 q.it, .int .i64 q.tg] rfl rfl K1 (by simp) (by kernel_rfl) (one14 _ _ _ _ _ _ _ _ _ _ _ _ _ _ _ _ _ _) ?_; clear _h K1; intro w2 K2 o2 s2; have q11 : w2.cell? ⟨w1.heap.size, 11, none⟩ = some (.int .i64 3) := by { have h := K2.cell 11; rw [h]; show some (Value.int .i64 q.ow) = _; rw [H1.out.2.2.2.2.2] }; have HB2 := Lib.hid (new_below o2); have HL := Lib.hid (new_loc H1.out.2.1 o2 K2))
    | (have _h := K2; refine wpList_loadq rfl 36 (.tmp 1) rfl (w1.heap.size) [.int .i64 q.id, .int .i64 q.vw.size, .int .i64 q.obj, .int .i64 q.seq, .slice q.S q.sn.length q.cs', .bool q.vw.on, .bool q.vw.good, .slice q.vw.M q.vw.row.length q.vw.cm, .string (strOf q.vw.par), .int .i64 q.vw.ps, .int .i64 q.vw.ov, .int .i64 q.ow, .int .i64 q.it, .int .i64 q.tg] _ rfl K2 Try.underlying36 rfl (by kernel_rfl) ?_; clear _h K2))
  have HA2 := Lib.hid (acquire_any q w2 4 (by unfold I64; omega) HL.out.R H1.out.2.2.2.2.1)
  refine HA2.out.mono ?_
  rintro e w3 ⟨b3, ⟨hB, _⟩ | ⟨_, k, rfl, hk0, hE⟩ | ⟨_, r, _, _, hO⟩⟩
  · rw [H1.out.2.2.2.1] at hB; cases hB
  · have hk : k = 9 := by
      rcases hE with ⟨h, _⟩ | ⟨_, _, _, _, h⟩
      · omega
      · exact h
    subst hk
    have HI := Lib.hid (fun W => is_any 9 9 W)
    have HB3 := Lib.hid b3
    have HL3 := Lib.hid (HL.out.below b3)
    have K3 : Blk (w3.alloc (.cells #[.int .i64 0, .int .i64 0, .int .i64 0, .int .i64 0, .slice none 0 0, .bool false, .bool false, .slice none 0 0, .string ⟨#[]⟩, .int .i64 0, .int .i64 0, .int .i64 0, .int .i64 0, .int .i64 0] 36)) w3.heap.size 36 #[.int .i64 0, .int .i64 0, .int .i64 0, .int .i64 0, .slice none 0 0, .bool false, .bool false, .slice none 0 0, .string ⟨#[]⟩, .int .i64 0, .int .i64 0, .int .i64 0, .int .i64 0, .int .i64 0] := Blk.new _ _ _
    clear hE hk0 b3 q11
    simp only [errV, Z14]
    go_wp2_with (have _h := K3; refine wpList_storeq rfl 36 (.tmp 3) (.tmp 20) rfl (w3.heap.size) _ [.int .i64 0, .int .i64 0, .int .i64 0, .int .i64 0, .slice none 0 0, .bool false, .bool false, .slice none 0 0, .string ⟨#[]⟩, .int .i64 0, .int .i64 0, .int .i64 0, .int .i64 0, .int .i64 0] rfl rfl K3 (by simp) (by kernel_rfl) (one14 _ _ _ _ _ _ _ _ _ _ _ _ _ _ _ _ _ _) ?_; clear _h K3; intro w4 K4 o4 s4; have HB4 := Lib.hid (new_below o4))
    have HL4 := Lib.hid (HL3.out.below HB4.out)
    refine (HI.out w4).mono ?_
    rintro e w5 ⟨rfl, rfl⟩
    have K5 : Blk w4 w1.heap.size 36 #[.int .i64 q.id, .int .i64 q.vw.size, .int .i64 q.obj, .int .i64 q.seq, .slice q.S q.sn.length q.cs', .bool q.vw.on, .bool q.vw.good, .slice q.vw.M q.vw.row.length q.vw.cm, .string (strOf q.vw.par), .int .i64 q.vw.ps, .int .i64 q.vw.ov, .int .i64 q.ow, .int .i64 q.it, .int .i64 q.tg] := HL4.out.blk
    rw [show ((9 : Nat) == 9) = true from rfl]
    have k0 : w4.cell? ⟨w1.heap.size, 0, none⟩ = some (.int .i64 q.id) := K5.cell 0
    have k1 : w4.cell? ⟨w1.heap.size, 1, none⟩ = some (.int .i64 q.vw.size) := K5.cell 1
    have k2 : w4.cell? ⟨w1.heap.size, 2, none⟩ = some (.int .i64 q.obj) := K5.cell 2
    have k3 : w4.cell? ⟨w1.heap.size, 3, none⟩ = some (.int .i64 q.seq) := K5.cell 3
    have k4 : w4.cell? ⟨w1.heap.size, 4, none⟩ = some (.slice q.S q.sn.length q.cs') := K5.cell 4
    have k5 : w4.cell? ⟨w1.heap.size, 5, none⟩ = some (.bool q.vw.on) := K5.cell 5
    have k6 : w4.cell? ⟨w1.heap.size, 6, none⟩ = some (.bool q.vw.good) := K5.cell 6
    have k7 : w4.cell? ⟨w1.heap.size, 7, none⟩ = some (.slice q.vw.M q.vw.row.length q.vw.cm) := K5.cell 7
    have k8 : w4.cell? ⟨w1.heap.size, 8, none⟩ = some (.string (strOf q.vw.par)) := K5.cell 8
    have k9 : w4.cell? ⟨w1.heap.size, 9, none⟩ = some (.int .i64 q.vw.ps) := K5.cell 9
    have k10 : w4.cell? ⟨w1.heap.size, 10, none⟩ = some (.int .i64 q.vw.ov) := K5.cell 10
    have k11 : w4.cell? ⟨w1.heap.size, 11, none⟩ = some (.int .i64 q.ow) := K5.cell 11
    have k12 : w4.cell? ⟨w1.heap.size, 12, none⟩ = some (.int .i64 q.it) := K5.cell 12
    have k13 : w4.cell? ⟨w1.heap.size, 13, none⟩ = some (.int .i64 q.tg) := K5.cell 13
    clear K5
    go_wp2_with fail
    have HO := Lib.hid (ownsc_any q w4 3 HL4.out.R H1.out.2.2.2.2.1)
    refine HO.out.mono ?_
    rintro e w6 ⟨b6, ⟨hB, _⟩ | ⟨_, hB, _⟩ | ⟨_, _, rfl⟩⟩
    · rw [H1.out.2.2.2.1] at hB; cases hB
    · exfalso
      rw [H1.out.2.2.1] at hB
      exact absurd hB (by decide)
    · have HB6 := Lib.hid b6
      clear b6
      go_wp2
      go_ret
      have h2 := HB2.out
      exact ⟨rfl, H1.out.1.trans ((h2.trans ((HB3.out.trans ((HB4.out.trans (HB6.out.mono HB4.out.size)).mono HB3.out.size)).mono h2.size)).mono H1.out.1.size)⟩
  · exfalso
    obtain ⟨_, _, h, _⟩ := hO
    have e : q.v.ow = 3 := H1.out.2.2.2.2.2
    omega
end Go.Proofs.Ytiimanoloedbeaa
