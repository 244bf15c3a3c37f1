/-
  What Finish does with a copy of a head. Conditions: the copy is the call's own and good, its rows lie in blocks of their own.
-/
import Derived.Test.YtiimanoloedbeaaUi

namespace Go.Proofs.Ytiimanoloedbeaa
open Go.RowKit Go.BigFrame
set_option linter.unusedSimpArgs false
set_option linter.unusedVariables false
set_option maxRecDepth 100000
/-- as L_first, where what waits for i is named: L among it -/
theorem D_first {P : Program} {ops : Array Oper} {Q : Exit → Act → World → Prop} {md : Region.Mode} {S : World → Prop} {L : Nat} (D : List Nat) {i : Nat} {oi : Oper} {v : Value} (hi : ops[i]? = some oi) (hDL : L ∈ D) (hD : ∀ j ∈ D, ∃ oj, ops[j]? = some oj ∧ ∃ e ∈ oj.after, Region.binds md e = true ∧ (e.on = i ∨ e.on ∈ D)) (hsel : ∀ (j : Nat) (o : Oper) cs b, ops[j]? = some o → o.op ≠ .select cs b)
    (hQ : ∀ c a w, Q (.panic c) (a.put oi.dst v) w → Q (.panic c) a w) :
    ∀ (f : Nat) (l : Array Bool) (a : Act) (w : World), (∀ j ∈ D, l.getD j true = false) →
      (∀ j oj, ops[j]? = some oj → j ≠ i → l.getD j true = false → (∀ e ∈ oj.after, Region.binds md e = true → e.on ≠ i) → oi.apart ops oj = true) →
      i ∈ Region.ready md ops l → YieldsIf P ops S oi v a → S w →
      wpAnyL P md ops Q S L f (l.setIfInBounds i true) (a.put oi.dst v) w → wpAnyL P md ops Q S L (f + 1) l a w
  | 0, l, a, w, hl, _, hr, hy, hS, H => by
    refine ⟨fun h => (by rw [h] at hr; cases hr), fun j hj => ?_⟩
    by_cases hji : j = i
    · subst hji
      exact hy.wpOp hi hS ⟨fun _ => hS, H⟩
    · have := ready_mono hj hji
      rw [H.1] at this
      cases this
  | f + 1, l, a, w, hl, hfree, hr, hy, hS, H => by
    refine ⟨fun h => (by rw [h] at hr; cases hr), fun j hj => ?_⟩
    by_cases hji : j = i
    · subst hji
      exact hy.wpOp hi hS ⟨fun _ => hS, H⟩
    · obtain ⟨hjun, oj, hoj, hall⟩ := mem_ready.1 hj
      have hiun : l.getD i true = false := (mem_ready.1 hr).1
      have h1 := H.2 j (ready_mono hj hji)
      have hun : ∀ q, l.getD q true = false → ∀ e ∈ oj.after, Region.binds md e = true → e.on ≠ q := fun q hq e he hb heq => by
        have h2 := hall e he hb
        rw [heq] at h2
        rcases Nat.lt_or_ge q l.size with h' | h'
        · simp [h'] at hq h2
          rw [hq] at h2
          cases h2
        · simp [Array.getElem?_eq_none h'] at h2
      have hnot := hun i hiun
      have hjD : j ∉ D := fun hm => by
        obtain ⟨o2, ho2, e, he, hb, hon⟩ := hD j hm
        rw [hoj] at ho2
        injection ho2 with ho2
        subst ho2
        rcases hon with h | h
        · exact hnot e he hb h
        · exact hun e.on (hl _ h) e he hb rfl
      have hjL : j ≠ L := fun h => hjD (h ▸ hDL)
      have h2 := wpOp_putIf hoj (hfree j oj hoj hji hjun hnot) (fun cs b => hsel i oi cs b hi) (fun cs b => hsel j oj cs b hoj) hQ hy h1
      refine wpOp_mono (fun a' w' h3 => ?_) h2
      obtain ⟨hy', hS', H'⟩ := h3
      rw [Array.setIfInBounds_comm _ _ (Ne.symm hji)] at H'
      refine ⟨fun _ => hS' hjL, D_first D hi hDL hD hsel hQ f _ a' w' (fun q hq => ?_) (fun k ok hk hki hun hno => hfree k ok hk hki ?_ hno) (ready_mono hr (Ne.symm hji)) hy' (hS' hjL) H'⟩
      · have hne : j ≠ q := fun h => hjD (h ▸ hq)
        rw [getD_set_ne true hne]
        exact hl q hq
      · by_cases hjk : j = k
        · subst hjk; exact hjun
        · rw [getD_set_ne true hjk] at hun; exact hun
/-- what reads under S is taken first; the last operation waits for it, by way of others -/
theorem D_take {P : Program} {ops : Array Oper} {Q : Exit → Act → World → Prop} {md : Region.Mode} {S : World → Prop} {L : Nat} (D : List Nat) {i : Nat} {oi : Oper} {v : Value} {f : Nat} {l : Array Bool} {a : Act} {w : World} (hi : ops[i]? = some oi) (hDL : D.contains L = true) (hD : (D.all fun j => match ops[j]? with | some oj => oj.after.any (fun e => Region.binds md e && (e.on == i || D.contains e.on)) | none => false) = true) (hl : (D.all fun j => !(l.getD j true)) = true)
    (hs : Region.noSelect ops = true) (hf : Region.free md ops l i = true) (hr : (Region.ready md ops l).contains i = true)
    (hQ : ∀ c a w, Q (.panic c) (a.put oi.dst v) w → Q (.panic c) a w) (hy : YieldsIf P ops S oi v a) (hS : S w)
    (h : wpAnyL P md ops Q S L f (l.setIfInBounds i true) (a.put oi.dst v) w) : wpAnyL P md ops Q S L (f + 1) l a w :=
  D_first D hi (by simpa using hDL) (fun j hj => by
    have h1 := List.all_eq_true.1 hD j hj
    cases ho : ops[j]? with
    | none => rw [ho] at h1; cases h1
    | some oj =>
      rw [ho] at h1
      obtain ⟨k, hk, he⟩ := Array.any_eq_true.1 h1
      simp only [Bool.and_eq_true, Bool.or_eq_true, beq_iff_eq, List.contains_iff_mem] at he
      exact ⟨oj, rfl, _, Array.getElem_mem hk, he.1, he.2⟩) (Region.noSelect_spec hs) hQ f l a w (fun j hj => by
    have h1 := List.all_eq_true.1 hl j hj
    simpa using h1) (Region.free_spec hi hf) (by simpa using hr) hy hS h
theorem num_back {v : HdV} (hB : v.B = true) (h : v.it = 2 ∨ v.it = 3) : ∃ (i : Nat) (s : SnV), idxN v v.tg = i ∧ v.sn[i]? = some s := by
  have h8 := ((B_iff v).1 hB).2.2.2.2.2.2.2
  rw [itB_iff] at h8
  have hm : v.tg ∈ v.sn.map SnV.num := by
    rcases h8 with h8 | h8 | h8
    · omega
    · exact h8.2
    · omega
  obtain ⟨s, hs, e⟩ := List.mem_map.1 hm
  have h0 : 0 ≤ idxI (fun s : SnV => s.num == v.tg) v.sn := by
    rcases Int.lt_or_le (idxI (fun s : SnV => s.num == v.tg) v.sn) 0 with h | h
    · have := (idx_neg _ _).1 h s hs
      rw [e] at this
      simp at this
    · exact h
  obtain ⟨k, x, e, hx, -⟩ := idx_at _ v.sn h0
  exact ⟨k, x, e, hx⟩
/-- behind what was done, nothing is -/
theorem idle_N {c : HA} {w w1 : World} {base g : Nat} (k : Blk w g 36 c.cs) (hN : c.N w base []) (o : Only [g] w w1) : ({ c with it := 0, tg := 0 } : HA).N w1 base [] := by
  have h := hN.stay k o
  exact ⟨h.vw, h.sn, h.own, h.id, h.obj, h.seq, h.ow, by unfold I64; show -9223372036854775808 ≤ (0 : Int) ∧ (0 : Int) ≤ 9223372036854775807; omega, by unfold I64; show -9223372036854775808 ≤ (0 : Int) ∧ (0 : Int) ≤ 9223372036854775807; omega⟩
set_option maxHeartbeats 32000000 in
theorem fin1_any (W : World) (base g : Nat) (c : HA) (hb : base ≤ W.heap.size) (hg : base ≤ g) (k : Blk W g 36 c.cs) (hN : c.N W base []) (hdj : c.Dj) (hB : c.v.B = true) (hc : c.sn.length ≤ 1000) (hml : c.vw.row.length ≤ 1000000 ∧ ∀ x ∈ c.sn, x.vw.row.length ≤ 1000000) :
    Calls Try.prog 128 #[.pointer (some ⟨g, 0, none⟩)] W (DoesTo base [] g (fun k _ => FinE c.v k) (fun v _ => FinO c.v v) W) := by
  have K0 : Blk W g 36 #[.int .i64 c.id, .int .i64 c.vw.size, .int .i64 c.obj, .int .i64 c.seq, .slice c.S c.sn.length c.cs', .bool c.vw.on, .bool c.vw.good, .slice c.vw.M c.vw.row.length c.vw.cm, .string (strOf c.vw.par), .int .i64 c.vw.ps, .int .i64 c.vw.ov, .int .i64 c.ow, .int .i64 c.it, .int .i64 c.tg] := k
  have HK := Lib.hid (And.intro k (And.intro hN (And.intro hb (And.intro hg (And.intro hdj (And.intro hB (And.intro hc hml)))))))
  have HB1 : Hid (∀ W', Below W.heap.size W W' → Blk W' g 36 #[.int .i64 c.id, .int .i64 c.vw.size, .int .i64 c.obj, .int .i64 c.seq, .slice c.S c.sn.length c.cs', .bool c.vw.on, .bool c.vw.good, .slice c.vw.M c.vw.row.length c.vw.cm, .string (strOf c.vw.par), .int .i64 c.vw.ps, .int .i64 c.vw.ov, .int .i64 c.ow, .int .i64 c.it, .int .i64 c.tg]) := Lib.hid fun W' hW' => K0.of (hW'.block _ K0.lt)
  have HNM : Hid (∀ W', Below W.heap.size W W' → Calls Try.prog 30 #[.agg #[.int .i64 c.id, .int .i64 c.vw.size, .int .i64 c.obj, .int .i64 c.seq, .slice c.S c.sn.length c.cs', .bool c.vw.on, .bool c.vw.good, .slice c.vw.M c.vw.row.length c.vw.cm, .string (strOf c.vw.par), .int .i64 c.vw.ps, .int .i64 c.vw.ov, .int .i64 c.ow, .int .i64 c.it, .int .i64 c.tg], .int .i64 c.tg] W' fun e w' => e = .returned (.int .i64 (idxN c.v c.tg)) ∧ Below W'.heap.size W' w') := Lib.hid fun W' hW' => by rw [idxN_own]; exact number_any c c.tg W' (hN.below hW').R (by omega)
  have q12 : W.cell? ⟨g, 12, none⟩ = some (.int .i64 c.it) := K0.cell 12
  have q13 : W.cell? ⟨g, 13, none⟩ = some (.int .i64 c.tg) := K0.cell 13
  clear k hN hb hg hdj hB hc hml K0
  go_enter Try.func128, Try.ntmps128
  by_cases i1 : c.it = 1
  · as_aux_lemma =>
    have HIT := Lib.hid i1
    rw [i1] at q12
    clear i1
    have HTG : Hid (0 ≤ c.tg ∧ c.tg ≤ 4096) := Lib.hid (by
      have h8 := ((B_iff c.v).1 HK.out.2.2.2.2.2.1).2.2.2.2.2.2.2
      rw [itB_iff] at h8
      rcases h8 with h | h | h
      · exact h.2
      · have := h.1; have e : c.v.it = 1 := HIT.out; omega
      · have := h.1; have e : c.v.it = 1 := HIT.out; omega)
    have HRS := Lib.hid (resize_any W base g c c.tg HK.out.2.2.1 HK.out.2.2.2.1 HK.out.1 HK.out.2.1 HK.out.1.lt HTG.out (good_sizes HK.out.2.2.2.2.2.1).2)
    go_wp2_with fail
    refine HRS.out.mono ?_
    rintro e w2 ⟨rfl, o2, c', k', n', v'⟩
    have HE : Hid (Below base W w2 ∧ Blk w2 g 36 c'.cs ∧ c'.N w2 base [] ∧ c'.v = resV c.v c.tg) := Lib.hid ⟨o2.below (fun x hx => by simp at hx; have := HK.out.2.2.2.1; omega) HK.out.2.2.1, k', n', v'⟩
    clear n' v' o2 q12 q13
    have KP : Blk w2 g 36 #[.int .i64 c'.id, .int .i64 c'.vw.size, .int .i64 c'.obj, .int .i64 c'.seq, .slice c'.S c'.sn.length c'.cs', .bool c'.vw.on, .bool c'.vw.good, .slice c'.vw.M c'.vw.row.length c'.vw.cm, .string (strOf c'.vw.par), .int .i64 c'.vw.ps, .int .i64 c'.vw.ov, .int .i64 c'.ow, .int .i64 c'.it, .int .i64 c'.tg] := k'
    go_wp2_with (first
      | (have _h := KP; refine wpList_setq rfl 3 (.tmp 55) (.const (.int .i64 0)) rfl g 12 36 _ (.int .i64 0) rfl rfl KP (by simp) (by kernel_rfl) rfl ?_; clear _h KP; intro w8 K8 o8 s8)
      | (have _h := K8; refine wpList_setq rfl 3 (.tmp 57) (.const (.int .i64 0)) rfl g 13 36 _ (.int .i64 0) rfl rfl K8 (by simp) (by kernel_rfl) rfl ?_; clear _h K8; intro w9 K9 o9 s9))
    go_ret
    have o99 := o8.trans o9 (fun x h => .inl h)
    exact ⟨Frm.of (HE.out.1.trans (o99.below (fun x hx => by simp at hx; have := HK.out.2.2.2.1; omega) (Nat.le_trans HK.out.2.2.1 HE.out.1.size))), .inr ⟨rfl, { c' with it := 0, tg := 0 }, K9, idle_N HE.out.2.1 HE.out.2.2.1 o99, .inl ⟨HIT.out, by rw [show ({ c' with it := 0, tg := 0 } : HA).v = idle c'.v from rfl, HE.out.2.2.2]; rfl⟩⟩⟩
  have e1 : (c.it == 1) = false := beq_eq_false_iff_ne.2 i1
  by_cases i2 : c.it = 2
  · as_aux_lemma =>
    have HIT := Lib.hid i2
    rw [i2] at q12
    clear i1 i2
    obtain ⟨i, sv, hix, hsv⟩ := num_back HK.out.2.2.2.2.2.1 (by have e : c.v.it = c.it := rfl; rw [e, HIT.out]; simp)
    have hix : idxN c.v c.tg = i := hix
    obtain ⟨s, hs, hss⟩ : ∃ s : SA, c.sn[i]? = some s ∧ s.v = sv := by
      have h : (c.sn.map SA.v)[i]? = some sv := hsv
      rw [List.getElem?_map] at h
      cases h9 : c.sn[i]? with
      | none => rw [h9] at h; cases h
      | some s => rw [h9] at h; injection h with h; exact ⟨s, rfl, h⟩
    subst hss
    obtain ⟨gS, hSg, hgS, hgW, hcl⟩ := sn_at HK.out.2.1 hs
    have HS9 := Lib.hid (And.intro hix (And.intro hsv (And.intro hs (And.intro hSg (And.intro hgW hcl)))))
    have hlt : i < c.sn.length := (List.getElem?_eq_some_iff.1 hs).1
    rw [hix] at HNM
    clear hix hsv hs hSg hgW hcl hgS q13
    have HX : Hid (∀ W', Below W.heap.size W W' → Blk W' g 36 #[.int .i64 c.id, .int .i64 c.vw.size, .int .i64 c.obj, .int .i64 c.seq, .slice (some ⟨gS, 0, none⟩) c.sn.length c.cs', .bool c.vw.on, .bool c.vw.good, .slice c.vw.M c.vw.row.length c.vw.cm, .string (strOf c.vw.par), .int .i64 c.vw.ps, .int .i64 c.vw.ov, .int .i64 c.ow, .int .i64 c.it, .int .i64 c.tg]) := Lib.hid fun W' hW' => by
      have := HB1.out W' hW'
      rw [HS9.out.2.2.2.1] at this
      exact this
    have HNX : Hid (∀ W', Below W.heap.size W W' → Calls Try.prog 30 #[.agg #[.int .i64 c.id, .int .i64 c.vw.size, .int .i64 c.obj, .int .i64 c.seq, .slice (some ⟨gS, 0, none⟩) c.sn.length c.cs', .bool c.vw.on, .bool c.vw.good, .slice c.vw.M c.vw.row.length c.vw.cm, .string (strOf c.vw.par), .int .i64 c.vw.ps, .int .i64 c.vw.ov, .int .i64 c.ow, .int .i64 c.it, .int .i64 c.tg], .int .i64 c.tg] W' fun e w' => e = .returned (.int .i64 (i : Int)) ∧ Below W'.heap.size W' w') := Lib.hid fun W' hW' => by
      have := HNM.out W' hW'
      rw [HS9.out.2.2.2.1] at this
      exact this
    have HRG : Hid (∀ W', Below W.heap.size W W' → W'.rangeAt gS (i * 11) s.cells) := Lib.hid fun W' hW' j v hv => (hW'.cell (by show gS < _; exact HS9.out.2.2.2.2.1)).trans (HS9.out.2.2.2.2.2 j v hv)
    have HBR : Hid (∀ W', Below W.heap.size W W' → Calls Try.prog 129 #[.pointer (some ⟨g, 0, none⟩), .agg s.cells.toArray] W' (BringTo W' base g c s)) := Lib.hid fun W' hW' =>
      bring_any W' base g c s (Nat.le_trans HK.out.2.2.1 hW'.size) HK.out.2.2.2.1 (HK.out.1.of (hW'.block _ HK.out.1.lt)) (HK.out.2.1.below hW') HK.out.2.2.2.2.1 ((HK.out.2.1.sn s (List.mem_of_getElem? HS9.out.2.2.1)).below hW')
        (by
          have h := (vw_iff _ _ _ _).1 (atSn HK.out.2.2.2.2.2.1 HS9.out.2.1).2.vw
          exact ⟨h.1, h.2.1⟩) (good_sizes HK.out.2.2.2.2.2.1).2 (fun hoff => by
          have h := (vw_iff _ _ _ _).1 ((B_iff c.v).1 HK.out.2.2.2.2.2.1).2.2.2.1
          rcases (mkB_iff _ _).1 h.2.2.1 with ⟨h1, _⟩ | ⟨_, h1, _⟩
          · have h2 : c.v.mx.on = false := hoff
            rw [h1] at h2; cases h2
          · exact h1)
    go_upto_region 6 with (fail)
    clear q12
    have hS : Below W.heap.size W W.drew := (Below.refl _ W).drew
    refine any_beginL (fun W' => Below W.heap.size W W') 15 (by kernel_rfl) ?_
    refine D_take [15] (i := 0) (v := .pointer (some ⟨g, 0, none⟩)) rfl rfl (by kernel_rfl) (by kernel_rfl) (by kernel_rfl) (by kernel_rfl) (by kernel_rfl) (fun _ _ _ h => h) (Or.inl ⟨by rfl, fun W' hw => by go_simp⟩) hS ?_
    simp only [Act.put, List.getElem_toArray, List.getElem_cons_succ, List.getElem_cons_zero, List.setIfInBounds_toArray, List.set_cons_zero, List.set_cons_succ]
    refine D_take [2, 3, 4, 13, 14, 15] (i := 1) (v := .pointer (some ⟨g, 0, none⟩)) rfl rfl (by kernel_rfl) (by kernel_rfl) (by kernel_rfl) (by kernel_rfl) (by kernel_rfl) (fun _ _ _ h => h) (Or.inl ⟨by rfl, fun W' hw => by go_simp⟩) hS ?_
    simp only [Act.put, List.getElem_toArray, List.getElem_cons_succ, List.getElem_cons_zero, List.setIfInBounds_toArray, List.set_cons_zero, List.set_cons_succ]
    refine D_take [3, 4, 13, 14, 15] (i := 2) (v := .pointer (some ⟨g, 0, none⟩)) rfl rfl (by kernel_rfl) (by kernel_rfl) (by kernel_rfl) (by kernel_rfl) (by kernel_rfl) (fun _ _ _ h => h) (Or.inl ⟨by rfl, fun W' hw => by go_simp⟩) hS ?_
    simp only [Act.put, List.getElem_toArray, List.getElem_cons_succ, List.getElem_cons_zero, List.setIfInBounds_toArray, List.set_cons_zero, List.set_cons_succ]
    refine D_take [4, 13, 14, 15] (i := 3) (v := .pointer (some ⟨g, 4, none⟩)) rfl rfl (by kernel_rfl) (by kernel_rfl) (by kernel_rfl) (by kernel_rfl) (by kernel_rfl) (fun _ _ _ h => h) (Or.inl ⟨by rfl, fun W' hw => by go_simp⟩) hS ?_
    simp only [Act.put, List.getElem_toArray, List.getElem_cons_succ, List.getElem_cons_zero, List.setIfInBounds_toArray, List.set_cons_zero, List.set_cons_succ]
    refine D_take [13, 14, 15] (i := 4) (v := .slice (some ⟨gS, 0, none⟩) c.sn.length c.cs') rfl rfl (by kernel_rfl) (by kernel_rfl) (by kernel_rfl) (by kernel_rfl) (by kernel_rfl) (fun _ _ _ h => h) (Or.inl ⟨by rfl, fun W' hw => by have k1 : W'.cell? ⟨g, 4, none⟩ = some (.slice (some ⟨gS, 0, none⟩) c.sn.length c.cs') := (HX.out W' hw).cell 4; go_simp⟩) hS ?_
    simp only [Act.put, List.getElem_toArray, List.getElem_cons_succ, List.getElem_cons_zero, List.setIfInBounds_toArray, List.set_cons_zero, List.set_cons_succ]
    refine D_take [6, 7, 12, 13, 14, 15] (i := 5) (v := .pointer (some ⟨g, 0, none⟩)) rfl rfl (by kernel_rfl) (by kernel_rfl) (by kernel_rfl) (by kernel_rfl) (by kernel_rfl) (fun _ _ _ h => h) (Or.inl ⟨by rfl, fun W' hw => by go_simp⟩) hS ?_
    simp only [Act.put, List.getElem_toArray, List.getElem_cons_succ, List.getElem_cons_zero, List.setIfInBounds_toArray, List.set_cons_zero, List.set_cons_succ]
    refine D_take [7, 12, 13, 14, 15] (i := 6) (v := .pointer (some ⟨g, 0, none⟩)) rfl rfl (by kernel_rfl) (by kernel_rfl) (by kernel_rfl) (by kernel_rfl) (by kernel_rfl) (fun _ _ _ h => h) (Or.inl ⟨by rfl, fun W' hw => by go_simp⟩) hS ?_
    simp only [Act.put, List.getElem_toArray, List.getElem_cons_succ, List.getElem_cons_zero, List.setIfInBounds_toArray, List.set_cons_zero, List.set_cons_succ]
    refine D_take [12, 13, 14, 15] (i := 7) (v := .agg #[.int .i64 c.id, .int .i64 c.vw.size, .int .i64 c.obj, .int .i64 c.seq, .slice (some ⟨gS, 0, none⟩) c.sn.length c.cs', .bool c.vw.on, .bool c.vw.good, .slice c.vw.M c.vw.row.length c.vw.cm, .string (strOf c.vw.par), .int .i64 c.vw.ps, .int .i64 c.vw.ov, .int .i64 c.ow, .int .i64 c.it, .int .i64 c.tg]) rfl rfl (by kernel_rfl) (by kernel_rfl) (by kernel_rfl) (by kernel_rfl) (by kernel_rfl) (fun _ _ _ h => h) (Or.inl ⟨by rfl, fun W' hw => by have k0 : W'.cell? ⟨g, 0, none⟩ = some (.int .i64 c.id) := (HX.out W' hw).cell 0; have k1 : W'.cell? ⟨g, 1, none⟩ = some (.int .i64 c.vw.size) := (HX.out W' hw).cell 1; have k2 : W'.cell? ⟨g, 2, none⟩ = some (.int .i64 c.obj) := (HX.out W' hw).cell 2; have k3 : W'.cell? ⟨g, 3, none⟩ = some (.int .i64 c.seq) := (HX.out W' hw).cell 3; have k4 : W'.cell? ⟨g, 4, none⟩ = some (.slice (some ⟨gS, 0, none⟩) c.sn.length c.cs') := (HX.out W' hw).cell 4; have k5 : W'.cell? ⟨g, 5, none⟩ = some (.bool c.vw.on) := (HX.out W' hw).cell 5; have k6 : W'.cell? ⟨g, 6, none⟩ = some (.bool c.vw.good) := (HX.out W' hw).cell 6; have k7 : W'.cell? ⟨g, 7, none⟩ = some (.slice c.vw.M c.vw.row.length c.vw.cm) := (HX.out W' hw).cell 7; have k8 : W'.cell? ⟨g, 8, none⟩ = some (.string (strOf c.vw.par)) := (HX.out W' hw).cell 8; have k9 : W'.cell? ⟨g, 9, none⟩ = some (.int .i64 c.vw.ps) := (HX.out W' hw).cell 9; have k10 : W'.cell? ⟨g, 10, none⟩ = some (.int .i64 c.vw.ov) := (HX.out W' hw).cell 10; have k11 : W'.cell? ⟨g, 11, none⟩ = some (.int .i64 c.ow) := (HX.out W' hw).cell 11; have k12 : W'.cell? ⟨g, 12, none⟩ = some (.int .i64 c.it) := (HX.out W' hw).cell 12; have k13 : W'.cell? ⟨g, 13, none⟩ = some (.int .i64 c.tg) := (HX.out W' hw).cell 13; go_simp⟩) hS ?_
    simp only [Act.put, List.getElem_toArray, List.getElem_cons_succ, List.getElem_cons_zero, List.setIfInBounds_toArray, List.set_cons_zero, List.set_cons_succ]
    refine D_take [9, 10, 11, 12, 13, 14, 15] (i := 8) (v := .pointer (some ⟨g, 0, none⟩)) rfl rfl (by kernel_rfl) (by kernel_rfl) (by kernel_rfl) (by kernel_rfl) (by kernel_rfl) (fun _ _ _ h => h) (Or.inl ⟨by rfl, fun W' hw => by go_simp⟩) hS ?_
    simp only [Act.put, List.getElem_toArray, List.getElem_cons_succ, List.getElem_cons_zero, List.setIfInBounds_toArray, List.set_cons_zero, List.set_cons_succ]
    refine D_take [10, 11, 12, 13, 14, 15] (i := 9) (v := .pointer (some ⟨g, 0, none⟩)) rfl rfl (by kernel_rfl) (by kernel_rfl) (by kernel_rfl) (by kernel_rfl) (by kernel_rfl) (fun _ _ _ h => h) (Or.inl ⟨by rfl, fun W' hw => by go_simp⟩) hS ?_
    simp only [Act.put, List.getElem_toArray, List.getElem_cons_succ, List.getElem_cons_zero, List.setIfInBounds_toArray, List.set_cons_zero, List.set_cons_succ]
    refine D_take [11, 12, 13, 14, 15] (i := 10) (v := .pointer (some ⟨g, 13, none⟩)) rfl rfl (by kernel_rfl) (by kernel_rfl) (by kernel_rfl) (by kernel_rfl) (by kernel_rfl) (fun _ _ _ h => h) (Or.inl ⟨by rfl, fun W' hw => by go_simp⟩) hS ?_
    simp only [Act.put, List.getElem_toArray, List.getElem_cons_succ, List.getElem_cons_zero, List.setIfInBounds_toArray, List.set_cons_zero, List.set_cons_succ]
    refine D_take [12, 13, 14, 15] (i := 11) (v := .int .i64 c.tg) rfl rfl (by kernel_rfl) (by kernel_rfl) (by kernel_rfl) (by kernel_rfl) (by kernel_rfl) (fun _ _ _ h => h) (Or.inl ⟨by rfl, fun W' hw => by have k1 : W'.cell? ⟨g, 13, none⟩ = some (.int .i64 c.tg) := (HX.out W' hw).cell 13; go_simp⟩) hS ?_
    simp only [Act.put, List.getElem_toArray, List.getElem_cons_succ, List.getElem_cons_zero, List.setIfInBounds_toArray, List.set_cons_zero, List.set_cons_succ]
    refine L_one (j := 12) (by kernel_rfl) rfl (by rfl) ?_
    simp only [Act.put, List.getElem_toArray, List.getElem_cons_succ, List.getElem_cons_zero, List.setIfInBounds_toArray, List.set_cons_zero, List.set_cons_succ]
    refine wp_called (by go_simp) (HNX.out _ hS) ?_
    rintro e W12 ⟨rfl, b⟩
    have hS : Below W.heap.size W W12 := hS.trans (b.mono hS.size)
    clear b
    refine ⟨_, rfl, hS, ?_⟩
    simp only [Act.put, List.getElem_toArray, List.getElem_cons_succ, List.getElem_cons_zero, List.setIfInBounds_toArray, List.set_cons_zero, List.set_cons_succ]
    refine D_take [14, 15] (i := 13) (v := .pointer (some ⟨gS, i * 11, none⟩)) rfl rfl (by kernel_rfl) (by kernel_rfl) (by kernel_rfl) (by kernel_rfl) (by kernel_rfl) (fun _ _ _ h => h) (Or.inl ⟨by rfl, fun W' hw => by go_simp⟩) hS ?_
    simp only [Act.put, List.getElem_toArray, List.getElem_cons_succ, List.getElem_cons_zero, List.setIfInBounds_toArray, List.set_cons_zero, List.set_cons_succ]
    refine D_take [15] (i := 14) (v := .agg s.cells.toArray) rfl rfl (by kernel_rfl) (by kernel_rfl) (by kernel_rfl) (by kernel_rfl) (by kernel_rfl) (fun _ _ _ h => h) (yieldsIf_load_mid (by rfl) 66 (.tmp 31) rfl gS (i * 11) rfl s.cells _ (fun W' hw => HRG.out W' hw) Try.underlying66 rfl (by kernel_rfl)) hS ?_
    simp only [Act.put, List.getElem_toArray, List.getElem_cons_succ, List.getElem_cons_zero, List.setIfInBounds_toArray, List.set_cons_zero, List.set_cons_succ]
    refine L_last (by kernel_rfl) rfl (by rfl) (by kernel_rfl) ?_
    simp only [Act.put, List.getElem_toArray, List.getElem_cons_succ, List.getElem_cons_zero, List.setIfInBounds_toArray, List.set_cons_zero, List.set_cons_succ]
    refine wp_called (by go_simp) (HBR.out _ hS) ?_
    rintro e w2 ⟨rfl, b2, c', k', n', v'⟩
    refine ⟨_, rfl, NoPanic.normal ?_⟩
    have HE : Hid (Below base W w2 ∧ Blk w2 g 36 c'.cs ∧ c'.N w2 base [] ∧ c'.v = bringV c.v s.v) := Lib.hid ⟨(hS.mono HK.out.2.2.1).trans b2, k', n', v'⟩
    clear n' v' b2 hS
    have KP : Blk w2 g 36 #[.int .i64 c'.id, .int .i64 c'.vw.size, .int .i64 c'.obj, .int .i64 c'.seq, .slice c'.S c'.sn.length c'.cs', .bool c'.vw.on, .bool c'.vw.good, .slice c'.vw.M c'.vw.row.length c'.vw.cm, .string (strOf c'.vw.par), .int .i64 c'.vw.ps, .int .i64 c'.vw.ov, .int .i64 c'.ow, .int .i64 c'.it, .int .i64 c'.tg] := k'
    go_wp2_with (first
      | (have _h := KP; refine wpList_setq rfl 3 (.tmp 55) (.const (.int .i64 0)) rfl g 12 36 _ (.int .i64 0) rfl rfl KP (by simp) (by kernel_rfl) rfl ?_; clear _h KP; intro w8 K8 o8 s8)
      | (have _h := K8; refine wpList_setq rfl 3 (.tmp 57) (.const (.int .i64 0)) rfl g 13 36 _ (.int .i64 0) rfl rfl K8 (by simp) (by kernel_rfl) rfl ?_; clear _h K8; intro w9 K9 o9 s9))
    go_ret
    have o99 := o8.trans o9 (fun x h => .inl h)
    exact ⟨Frm.of (HE.out.1.trans (o99.below (fun x hx => by simp at hx; have := HK.out.2.2.2.1; omega) (Nat.le_trans HK.out.2.2.1 HE.out.1.size))), .inr ⟨rfl, { c' with it := 0, tg := 0 }, K9, idle_N HE.out.2.1 HE.out.2.2.1 o99, .inr (.inl ⟨HIT.out, i, s.v, HS9.out.1, HS9.out.2.1, by rw [show ({ c' with it := 0, tg := 0 } : HA).v = idle c'.v from rfl, HE.out.2.2.2]⟩)⟩⟩
  have e2 : (c.it == 2) = false := beq_eq_false_iff_ne.2 i2
  by_cases i3 : c.it = 3
  · as_aux_lemma =>
    have HIT := Lib.hid i3
    rw [i3] at q12
    clear i1 i2 i3
    obtain ⟨i, sv, hix, hsv⟩ := num_back HK.out.2.2.2.2.2.1 (by have e : c.v.it = c.it := rfl; rw [e, HIT.out]; simp)
    have hix : idxN c.v c.tg = i := hix
    obtain ⟨s, hs, hss⟩ : ∃ s : SA, c.sn[i]? = some s ∧ s.v = sv := by
      have h : (c.sn.map SA.v)[i]? = some sv := hsv
      rw [List.getElem?_map] at h
      cases h9 : c.sn[i]? with
      | none => rw [h9] at h; cases h
      | some s => rw [h9] at h; injection h with h; exact ⟨s, rfl, h⟩
    subst hss
    obtain ⟨gS, hSg, hgS, hgW, hcl⟩ := sn_at HK.out.2.1 hs
    have HS9 := Lib.hid (And.intro hix (And.intro hsv (And.intro hs (And.intro hSg (And.intro hgW hcl)))))
    have hlt : i < c.sn.length := (List.getElem?_eq_some_iff.1 hs).1
    rw [hix] at HNM
    clear hix hsv hs hSg hgW hcl hgS q13
    have HRM : Hid (∀ W', Below W.heap.size W W' → Calls Try.prog 130 #[.pointer (some ⟨g, 0, none⟩), .int .i64 (i : Int)] W' (RemTo W' base g c i s)) := Lib.hid fun W' hW' =>
      remove_any W' base g i c s (Nat.le_trans HK.out.2.2.1 hW'.size) HK.out.2.2.2.1 (HK.out.1.of (hW'.block _ HK.out.1.lt)) (HK.out.2.1.below hW') HK.out.2.2.2.2.1 HK.out.2.2.2.2.2.2.1 HS9.out.2.2.1 HK.out.2.2.2.2.2.2.2
    go_upto_region 8 with (fail)
    clear q12
    have hS : Below W.heap.size W W.drew := (Below.refl _ W).drew
    refine any_beginL (fun W' => Below W.heap.size W W') 9 (by kernel_rfl) ?_
    refine D_take [9] (i := 0) (v := .pointer (some ⟨g, 0, none⟩)) rfl rfl (by kernel_rfl) (by kernel_rfl) (by kernel_rfl) (by kernel_rfl) (by kernel_rfl) (fun _ _ _ h => h) (Or.inl ⟨by rfl, fun W' hw => by go_simp⟩) hS ?_
    simp only [Act.put, List.getElem_toArray, List.getElem_cons_succ, List.getElem_cons_zero, List.setIfInBounds_toArray, List.set_cons_zero, List.set_cons_succ]
    refine D_take [2, 3, 8, 9] (i := 1) (v := .pointer (some ⟨g, 0, none⟩)) rfl rfl (by kernel_rfl) (by kernel_rfl) (by kernel_rfl) (by kernel_rfl) (by kernel_rfl) (fun _ _ _ h => h) (Or.inl ⟨by rfl, fun W' hw => by go_simp⟩) hS ?_
    simp only [Act.put, List.getElem_toArray, List.getElem_cons_succ, List.getElem_cons_zero, List.setIfInBounds_toArray, List.set_cons_zero, List.set_cons_succ]
    refine D_take [3, 8, 9] (i := 2) (v := .pointer (some ⟨g, 0, none⟩)) rfl rfl (by kernel_rfl) (by kernel_rfl) (by kernel_rfl) (by kernel_rfl) (by kernel_rfl) (fun _ _ _ h => h) (Or.inl ⟨by rfl, fun W' hw => by go_simp⟩) hS ?_
    simp only [Act.put, List.getElem_toArray, List.getElem_cons_succ, List.getElem_cons_zero, List.setIfInBounds_toArray, List.set_cons_zero, List.set_cons_succ]
    refine D_take [8, 9] (i := 3) (v := .agg #[.int .i64 c.id, .int .i64 c.vw.size, .int .i64 c.obj, .int .i64 c.seq, .slice c.S c.sn.length c.cs', .bool c.vw.on, .bool c.vw.good, .slice c.vw.M c.vw.row.length c.vw.cm, .string (strOf c.vw.par), .int .i64 c.vw.ps, .int .i64 c.vw.ov, .int .i64 c.ow, .int .i64 c.it, .int .i64 c.tg]) rfl rfl (by kernel_rfl) (by kernel_rfl) (by kernel_rfl) (by kernel_rfl) (by kernel_rfl) (fun _ _ _ h => h) (Or.inl ⟨by rfl, fun W' hw => by have k0 : W'.cell? ⟨g, 0, none⟩ = some (.int .i64 c.id) := (HB1.out W' hw).cell 0; have k1 : W'.cell? ⟨g, 1, none⟩ = some (.int .i64 c.vw.size) := (HB1.out W' hw).cell 1; have k2 : W'.cell? ⟨g, 2, none⟩ = some (.int .i64 c.obj) := (HB1.out W' hw).cell 2; have k3 : W'.cell? ⟨g, 3, none⟩ = some (.int .i64 c.seq) := (HB1.out W' hw).cell 3; have k4 : W'.cell? ⟨g, 4, none⟩ = some (.slice c.S c.sn.length c.cs') := (HB1.out W' hw).cell 4; have k5 : W'.cell? ⟨g, 5, none⟩ = some (.bool c.vw.on) := (HB1.out W' hw).cell 5; have k6 : W'.cell? ⟨g, 6, none⟩ = some (.bool c.vw.good) := (HB1.out W' hw).cell 6; have k7 : W'.cell? ⟨g, 7, none⟩ = some (.slice c.vw.M c.vw.row.length c.vw.cm) := (HB1.out W' hw).cell 7; have k8 : W'.cell? ⟨g, 8, none⟩ = some (.string (strOf c.vw.par)) := (HB1.out W' hw).cell 8; have k9 : W'.cell? ⟨g, 9, none⟩ = some (.int .i64 c.vw.ps) := (HB1.out W' hw).cell 9; have k10 : W'.cell? ⟨g, 10, none⟩ = some (.int .i64 c.vw.ov) := (HB1.out W' hw).cell 10; have k11 : W'.cell? ⟨g, 11, none⟩ = some (.int .i64 c.ow) := (HB1.out W' hw).cell 11; have k12 : W'.cell? ⟨g, 12, none⟩ = some (.int .i64 c.it) := (HB1.out W' hw).cell 12; have k13 : W'.cell? ⟨g, 13, none⟩ = some (.int .i64 c.tg) := (HB1.out W' hw).cell 13; go_simp⟩) hS ?_
    simp only [Act.put, List.getElem_toArray, List.getElem_cons_succ, List.getElem_cons_zero, List.setIfInBounds_toArray, List.set_cons_zero, List.set_cons_succ]
    refine D_take [5, 6, 7, 8, 9] (i := 4) (v := .pointer (some ⟨g, 0, none⟩)) rfl rfl (by kernel_rfl) (by kernel_rfl) (by kernel_rfl) (by kernel_rfl) (by kernel_rfl) (fun _ _ _ h => h) (Or.inl ⟨by rfl, fun W' hw => by go_simp⟩) hS ?_
    simp only [Act.put, List.getElem_toArray, List.getElem_cons_succ, List.getElem_cons_zero, List.setIfInBounds_toArray, List.set_cons_zero, List.set_cons_succ]
    refine D_take [6, 7, 8, 9] (i := 5) (v := .pointer (some ⟨g, 0, none⟩)) rfl rfl (by kernel_rfl) (by kernel_rfl) (by kernel_rfl) (by kernel_rfl) (by kernel_rfl) (fun _ _ _ h => h) (Or.inl ⟨by rfl, fun W' hw => by go_simp⟩) hS ?_
    simp only [Act.put, List.getElem_toArray, List.getElem_cons_succ, List.getElem_cons_zero, List.setIfInBounds_toArray, List.set_cons_zero, List.set_cons_succ]
    refine D_take [7, 8, 9] (i := 6) (v := .pointer (some ⟨g, 13, none⟩)) rfl rfl (by kernel_rfl) (by kernel_rfl) (by kernel_rfl) (by kernel_rfl) (by kernel_rfl) (fun _ _ _ h => h) (Or.inl ⟨by rfl, fun W' hw => by go_simp⟩) hS ?_
    simp only [Act.put, List.getElem_toArray, List.getElem_cons_succ, List.getElem_cons_zero, List.setIfInBounds_toArray, List.set_cons_zero, List.set_cons_succ]
    refine D_take [8, 9] (i := 7) (v := .int .i64 c.tg) rfl rfl (by kernel_rfl) (by kernel_rfl) (by kernel_rfl) (by kernel_rfl) (by kernel_rfl) (fun _ _ _ h => h) (Or.inl ⟨by rfl, fun W' hw => by have k1 : W'.cell? ⟨g, 13, none⟩ = some (.int .i64 c.tg) := (HB1.out W' hw).cell 13; go_simp⟩) hS ?_
    simp only [Act.put, List.getElem_toArray, List.getElem_cons_succ, List.getElem_cons_zero, List.setIfInBounds_toArray, List.set_cons_zero, List.set_cons_succ]
    refine L_one (j := 8) (by kernel_rfl) rfl (by rfl) ?_
    simp only [Act.put, List.getElem_toArray, List.getElem_cons_succ, List.getElem_cons_zero, List.setIfInBounds_toArray, List.set_cons_zero, List.set_cons_succ]
    refine wp_called (by go_simp) (HNM.out _ hS) ?_
    rintro e W12 ⟨rfl, b⟩
    have hS : Below W.heap.size W W12 := hS.trans (b.mono hS.size)
    clear b
    refine ⟨_, rfl, hS, ?_⟩
    simp only [Act.put, List.getElem_toArray, List.getElem_cons_succ, List.getElem_cons_zero, List.setIfInBounds_toArray, List.set_cons_zero, List.set_cons_succ]
    refine L_last (by kernel_rfl) rfl (by rfl) (by kernel_rfl) ?_
    simp only [Act.put, List.getElem_toArray, List.getElem_cons_succ, List.getElem_cons_zero, List.setIfInBounds_toArray, List.set_cons_zero, List.set_cons_succ]
    refine wp_called (by go_simp) (HRM.out _ hS) ?_
    rintro e w2 ⟨rfl, b2, c', k', n', v'⟩
    refine ⟨_, rfl, NoPanic.normal ?_⟩
    have HE : Hid (Below base W w2 ∧ Blk w2 g 36 c'.cs ∧ c'.N w2 base [] ∧ c'.v = remV c.v i s.v) := Lib.hid ⟨(hS.mono HK.out.2.2.1).trans b2, k', n', v'⟩
    clear n' v' b2 hS
    have KP : Blk w2 g 36 #[.int .i64 c'.id, .int .i64 c'.vw.size, .int .i64 c'.obj, .int .i64 c'.seq, .slice c'.S c'.sn.length c'.cs', .bool c'.vw.on, .bool c'.vw.good, .slice c'.vw.M c'.vw.row.length c'.vw.cm, .string (strOf c'.vw.par), .int .i64 c'.vw.ps, .int .i64 c'.vw.ov, .int .i64 c'.ow, .int .i64 c'.it, .int .i64 c'.tg] := k'
    go_wp2_with (first
      | (have _h := KP; refine wpList_setq rfl 3 (.tmp 55) (.const (.int .i64 0)) rfl g 12 36 _ (.int .i64 0) rfl rfl KP (by simp) (by kernel_rfl) rfl ?_; clear _h KP; intro w8 K8 o8 s8)
      | (have _h := K8; refine wpList_setq rfl 3 (.tmp 57) (.const (.int .i64 0)) rfl g 13 36 _ (.int .i64 0) rfl rfl K8 (by simp) (by kernel_rfl) rfl ?_; clear _h K8; intro w9 K9 o9 s9))
    go_ret
    have o99 := o8.trans o9 (fun x h => .inl h)
    exact ⟨Frm.of (HE.out.1.trans (o99.below (fun x hx => by simp at hx; have := HK.out.2.2.2.1; omega) (Nat.le_trans HK.out.2.2.1 HE.out.1.size))), .inr ⟨rfl, { c' with it := 0, tg := 0 }, K9, idle_N HE.out.2.1 HE.out.2.2.1 o99, .inr (.inr (.inl ⟨HIT.out, i, s.v, HS9.out.1, HS9.out.2.1, by rw [show ({ c' with it := 0, tg := 0 } : HA).v = idle c'.v from rfl, HE.out.2.2.2]⟩))⟩⟩
  have e3 : (c.it == 3) = false := beq_eq_false_iff_ne.2 i3
  by_cases i4 : c.it = 4
  · as_aux_lemma =>
    have HIT := Lib.hid i4
    rw [i4] at q12
    clear i1 i2 i3 i4
    have KP : Blk W g 36 #[.int .i64 c.id, .int .i64 c.vw.size, .int .i64 c.obj, .int .i64 c.seq, .slice c.S c.sn.length c.cs', .bool c.vw.on, .bool c.vw.good, .slice c.vw.M c.vw.row.length c.vw.cm, .string (strOf c.vw.par), .int .i64 c.vw.ps, .int .i64 c.vw.ov, .int .i64 c.ow, .int .i64 c.it, .int .i64 c.tg] := HB1.out W (Below.refl _ _)
    have hzl : ∀ w, (zeroValue 34).run Try.prog w = .ok (.agg #[.string ⟨#[]⟩, .int .i64 0, .int .i64 0]) w := fun w => by kernel_rfl
    go_wp2_with (first
      | (have _h := KP; refine wpList_set3 rfl 34 (.tmp 51) (.tmp 49) rfl g 8 36 _ (.string ⟨#[]⟩) (.int .i64 0) (.int .i64 0) rfl rfl KP (by simp) (by kernel_rfl) rfl rfl rfl ?_; clear _h KP; intro w7 K7 o7 s7)
      | (have _h := K7; refine wpList_setq rfl 3 (.tmp 55) (.const (.int .i64 0)) rfl g 12 36 _ (.int .i64 0) rfl rfl K7 (by simp) (by kernel_rfl) rfl ?_; clear _h K7; intro w8 K8 o8 s8)
      | (have _h := K8; refine wpList_setq rfl 3 (.tmp 57) (.const (.int .i64 0)) rfl g 13 36 _ (.int .i64 0) rfl rfl K8 (by simp) (by kernel_rfl) rfl ?_; clear _h K8; intro w9 K9 o9 s9))
    go_ret
    have o99 := (o7.trans o8 (fun x h => .inl h)).trans o9 (fun x h => .inl h)
    have he : strOf [] = (⟨#[]⟩ : ByteArray) := rfl
    have h0 : I64 0 := by unfold I64; omega
    have hn := HK.out.2.1.stay HK.out.1 o99
    exact ⟨Frm.of (o99.below (fun x hx => by simp at hx; have := HK.out.2.2.2.1; omega) HK.out.2.2.1), .inr ⟨rfl, { c with vw := { c.vw with par := [], ps := 0, ov := 0 }, it := 0, tg := 0 }, K9, ⟨⟨hn.vw.own, hn.vw.far, hn.vw.ok, fun b hb => (by cases hb), hn.vw.size, h0, h0, by simp⟩, hn.sn, hn.own, hn.id, hn.obj, hn.seq, hn.ow, h0, h0⟩, .inr (.inr (.inr ⟨HIT.out, rfl⟩))⟩⟩
  have e4 : (c.it == 4) = false := beq_eq_false_iff_ne.2 i4
  have HC := Lib.hid (And.intro i1 (And.intro i2 (And.intro i3 i4)))
  have HBN : Hid (0 ≤ c.it ∧ c.it ≤ 5) := Lib.hid (by
    have h8 := ((B_iff c.v).1 HK.out.2.2.2.2.2.1).2.2.2.2.2.2.2
    rw [itB_iff] at h8
    have e : c.v.it = c.it := rfl
    omega)
  clear i1 i2 i3 i4
  go_wp2
  go_ret
  exact ⟨Frm.of (Below.refl _ _), .inl ⟨13, rfl, by omega, by have e : c.v.it = c.it := rfl; obtain ⟨h1, h2, h3, h4⟩ := HC.out; have := HBN.out; omega, rfl⟩⟩
end Go.Proofs.Ytiimanoloedbeaa

/-
  What Finish answers. Conditions: the head reads as it is said to, and is small.
-/
namespace Go.Proofs.Ytiimanoloedbeaa
open Go.RowKit Go.BigFrame
set_option linter.unusedSimpArgs false
set_option linter.unusedVariables false
set_option maxRecDepth 100000
theorem rows_few {c : HA} (hB : c.v.B = true) : c.vw.row.length ≤ 1000000 ∧ ∀ x ∈ c.sn, x.vw.row.length ≤ 1000000 := by
  have hm : ∀ (m : MkV) (n : Int), m.B n = true → m.row.length ≤ 256 := fun m n h => by
    rcases (mkB_iff m n).1 h with ⟨_, h, _⟩ | ⟨_, h, _⟩
    · exact h.1
    · rw [h]; simp
  have h4 := (vw_iff _ _ _ _).1 ((B_iff c.v).1 hB).2.2.2.1
  refine ⟨?_, fun x hx => ?_⟩
  · have : c.vw.row.length ≤ 256 := hm _ _ h4.2.2.1
    omega
  · obtain ⟨i, hi⟩ := List.getElem?_of_mem hx
    have hv : c.v.sn[i]? = some x.v := by show (c.sn.map SA.v)[i]? = _; rw [List.getElem?_map, hi]; rfl
    have h5 := (vw_iff _ _ _ _).1 (atSn hB hv).2.vw
    have : x.vw.row.length ≤ 256 := hm _ _ h5.2.2.1
    omega
set_option maxHeartbeats 16000000 in
theorem finish_any (h : HA) (w : World)  (hR : h.R SA.cells w) (hS : h.Sm) : Calls Try.prog 78 #[.agg h.cs] w (AnsTo w h.v (fun k => FinE h.v k) (fun v => FinO h.v v)) := by
  obtain ⟨W1, hW1⟩ : ∃ W, W = (w.alloc (.cells #[.int .i64 h.id, .int .i64 h.vw.size, .int .i64 h.obj, .int .i64 h.seq, .slice h.S h.sn.length h.cs', .bool h.vw.on, .bool h.vw.good, .slice h.vw.M h.vw.row.length h.vw.cm, .string (strOf h.vw.par), .int .i64 h.vw.ps, .int .i64 h.vw.ov, .int .i64 h.ow, .int .i64 h.it, .int .i64 h.tg] 36)).alloc (.cells #[.int .i64 0, .int .i64 0, .int .i64 0, .int .i64 0, .slice none 0 0, .bool false, .bool false, .slice none 0 0, .string ⟨#[]⟩, .int .i64 0, .int .i64 0, .int .i64 0, .int .i64 0, .int .i64 0] 36) := ⟨_, rfl⟩
  have h1 : Below w.heap.size w W1 ∧ W1.heap.size = w.heap.size + 2 ∧ Blk W1 w.heap.size 36 #[.int .i64 h.id, .int .i64 h.vw.size, .int .i64 h.obj, .int .i64 h.seq, .slice h.S h.sn.length h.cs', .bool h.vw.on, .bool h.vw.good, .slice h.vw.M h.vw.row.length h.vw.cm, .string (strOf h.vw.par), .int .i64 h.vw.ps, .int .i64 h.vw.ov, .int .i64 h.ow, .int .i64 h.it, .int .i64 h.tg] ∧ Blk W1 (w.heap.size + 1) 36 #[.int .i64 0, .int .i64 0, .int .i64 0, .int .i64 0, .slice none 0 0, .bool false, .bool false, .slice none 0 0, .string ⟨#[]⟩, .int .i64 0, .int .i64 0, .int .i64 0, .int .i64 0, .int .i64 0] := by
    rw [hW1]
    refine ⟨((below_alloc w _).alloc (by simp <;> omega) _), by simp, ((Blk.new w _ _).alloc _), ?_⟩
    have := Blk.new (w.alloc (.cells #[.int .i64 h.id, .int .i64 h.vw.size, .int .i64 h.obj, .int .i64 h.seq, .slice h.S h.sn.length h.cs', .bool h.vw.on, .bool h.vw.good, .slice h.vw.M h.vw.row.length h.vw.cm, .string (strOf h.vw.par), .int .i64 h.vw.ps, .int .i64 h.vw.ov, .int .i64 h.ow, .int .i64 h.it, .int .i64 h.tg] 36)) 36 #[.int .i64 0, .int .i64 0, .int .i64 0, .int .i64 0, .slice none 0 0, .bool false, .bool false, .slice none 0 0, .string ⟨#[]⟩, .int .i64 0, .int .i64 0, .int .i64 0, .int .i64 0, .int .i64 0]
    simpa using this
  have HCH := Lib.hid (change_any h W1 (hR.since h1.1) hS 128 (fun args w => by kernel_rfl) #[] [] (fun k hk => by cases hk) (fun k _ => FinE h.v k) (fun v _ => FinO h.v v) (fun _ _ _ _ p => p) (fun _ _ _ _ p => p) (fun W base g c hb1 hb2 hbw hg hk hN hD hcv hB => by
    have hBc : c.v.B = true := by rw [hcv]; exact hB
    rw [← hcv]; exact fin1_any W base g c hb2 hg hk hN hD hBc (few_small hcv hS) (rows_few hBc)))
  have HW1 := Lib.hid hW1
  have H1 := Lib.hid h1
  clear hW1 h1 hR hS 
  unfold HA.cs at *
  have hz := head_zero
  go_enter Try.func78, Try.ntmps78
  go_upto_region 1 with (fail)
  rw [← HW1.out]
  clear HW1
  have K1 := H1.out.2.2.1
  go_wp2_with (have _h := K1; refine wpList_loadq rfl 36 (.tmp 1) rfl (w.heap.size) [.int .i64 h.id, .int .i64 h.vw.size, .int .i64 h.obj, .int .i64 h.seq, .slice h.S h.sn.length h.cs', .bool h.vw.on, .bool h.vw.good, .slice h.vw.M h.vw.row.length h.vw.cm, .string (strOf h.vw.par), .int .i64 h.vw.ps, .int .i64 h.vw.ov, .int .i64 h.ow, .int .i64 h.it, .int .i64 h.tg] _ rfl K1 Try.underlying36 rfl (by kernel_rfl) ?_; clear _h K1)
  refine HCH.out.mono ?_
  rintro e w2 ⟨f2, h2⟩
  have b2 : Below W1.heap.size W1 w2 := f2.below
  have K2 : Blk w2 (w.heap.size + 1) 36 #[.int .i64 0, .int .i64 0, .int .i64 0, .int .i64 0, .slice none 0 0, .bool false, .bool false, .slice none 0 0, .string ⟨#[]⟩, .int .i64 0, .int .i64 0, .int .i64 0, .int .i64 0, .int .i64 0] := H1.out.2.2.2.of (b2.block _ H1.out.2.2.2.lt)
  have HB2 : Hid (Below w.heap.size w w2) := Lib.hid (H1.out.1.trans (b2.mono H1.out.1.size))
  have hz2 := HB2.out.size
  have HR2 := Lib.hid K2
  clear b2 f2 HCH
  rcases h2 with ⟨hB, rfl⟩ | ⟨hB, k, rfl, hk0, hpe⟩ | ⟨hB, q, rfl, hqN, hpo⟩
  · have HH := Lib.hid hB
    clear hB
    simp only [errV, Z14]
    go_wp2_with (have _h := K2; refine wpList_storeq rfl 36 (.tmp 2) (.tmp 6) rfl (w.heap.size + 1) _ [.int .i64 0, .int .i64 0, .int .i64 0, .int .i64 0, .slice none 0 0, .bool false, .bool false, .slice none 0 0, .string ⟨#[]⟩, .int .i64 0, .int .i64 0, .int .i64 0, .int .i64 0, .int .i64 0] rfl rfl K2 (by simp) (by kernel_rfl) (one14 _ _ _ _ _ _ _ _ _ _ _ _ _ _ _ _ _ _) ?_; clear _h K2; intro w9 K9 o9 s9)
    refine bodyPost_ret (results_cell_tmp9 rfl _ _ (w.heap.size + 1) 36 _ (0, 0) _ _ rfl rfl K9 Try.underlying36 rfl (by kernel_rfl)) rfl ?_
    exact ⟨HB2.out.trans (o9.below (fun x hx => by simp at hx; omega) hz2), .inl ⟨HH.out, rfl⟩⟩
  · obtain ⟨k, rfl⟩ : ∃ k', k = k' + 1 := ⟨k - 1, by omega⟩
    have HH := Lib.hid (And.intro hB hpe)
    clear hB hpe hk0
    simp only [errV, Z14]
    go_wp2_with (have _h := K2; refine wpList_storeq rfl 36 (.tmp 2) (.tmp 6) rfl (w.heap.size + 1) _ [.int .i64 0, .int .i64 0, .int .i64 0, .int .i64 0, .slice none 0 0, .bool false, .bool false, .slice none 0 0, .string ⟨#[]⟩, .int .i64 0, .int .i64 0, .int .i64 0, .int .i64 0, .int .i64 0] rfl rfl K2 (by simp) (by kernel_rfl) (one14 _ _ _ _ _ _ _ _ _ _ _ _ _ _ _ _ _ _) ?_; clear _h K2; intro w9 K9 o9 s9)
    refine bodyPost_ret (results_cell_tmp9 rfl _ _ (w.heap.size + 1) 36 _ (0, 0) _ _ rfl rfl K9 Try.underlying36 rfl (by kernel_rfl)) rfl ?_
    exact ⟨HB2.out.trans (o9.below (fun x hx => by simp at hx; omega) hz2), .inr (.inl ⟨HH.out.1, k + 1, rfl, by omega, HH.out.2⟩)⟩
  · have HH := Lib.hid (And.intro hB (And.intro hqN hpo))
    clear hB hqN hpo
    unfold HA.cs
    go_wp2_with (have _h := K2; refine wpList_storeq rfl 36 (.tmp 2) (.tmp 6) rfl (w.heap.size + 1) _ [.int .i64 q.id, .int .i64 q.vw.size, .int .i64 q.obj, .int .i64 q.seq, .slice q.S q.sn.length q.cs', .bool q.vw.on, .bool q.vw.good, .slice q.vw.M q.vw.row.length q.vw.cm, .string (strOf q.vw.par), .int .i64 q.vw.ps, .int .i64 q.vw.ov, .int .i64 q.ow, .int .i64 q.it, .int .i64 q.tg] rfl rfl K2 (by simp) (by kernel_rfl) (one14 _ _ _ _ _ _ _ _ _ _ _ _ _ _ _ _ _ _) ?_; clear _h K2; intro w9 K9 o9 s9)
    refine bodyPost_ret (results_cell_tmp9 rfl _ _ (w.heap.size + 1) 36 _ (0, 0) _ _ rfl rfl K9 Try.underlying36 rfl (by kernel_rfl)) rfl ?_
    exact ⟨HB2.out.trans (o9.below (fun x hx => by simp at hx; omega) hz2), .inr (.inr ⟨HH.out.1, q, rfl, (HH.out.2.1.stay HR2.out o9).weaken (by have := H1.out.2.1; omega), HH.out.2.2⟩)⟩
end Go.Proofs.Ytiimanoloedbeaa

/-
  What is made and undone is as it was: heads as data. No condition; nothing of the program is named.
-/
namespace Go.Proofs.Ytiimanoloedbeaa
open Go.RowKit Go.BigFrame
set_option linter.unusedSimpArgs false
set_option linter.unusedVariables false
set_option maxRecDepth 100000
/-- no snapshot has more children than so many -/
def Few (m : Nat) (v : HdV) : Prop := ∀ s ∈ v.sn, s.ch.length ≤ m
theorem Few.mono {m n : Nat} {v : HdV} (h : Few m v) (hmn : m ≤ n) : Few n v := fun s hs => Nat.le_trans (h s hs) hmn
theorem mk_short {m : MkV} {n : Int} (h : m.B n = true) : m.row.length ≤ 256 := by
  rcases (mkB_iff m n).1 h with ⟨_, h, _⟩ | ⟨_, h, _⟩
  · exact h.1
  · rw [h]; simp
theorem lk_short {l : LkV} {n : Int} (h : l.B n = true) : l.par.length ≤ 20 := by
  rcases (lkB_iff l n).1 h with ⟨h, _⟩ | ⟨_, h, _⟩
  · rw [h]; simp
  · exact (named_len h).2
theorem sm_good {q : HA} (hB : q.v.B = true) (hf : Few 10000 q.v) : q.Sm := by
  have h4 := (vw_iff _ _ _ _).1 ((B_iff q.v).1 hB).2.2.2.1
  have h5 := (sns_iff q.v).1 ((B_iff q.v).1 hB).2.2.2.2.1
  have hn : q.sn.length ≤ 16 := by have := h5.few; simpa [HA.v] using this
  have hr : q.vw.row.length ≤ 256 := mk_short h4.2.2.1
  have hp : q.vw.par.length ≤ 20 := lk_short h4.2.2.2
  refine ⟨⟨by omega, by omega⟩, by omega, fun s hs => ?_⟩
  have hm : s.v ∈ q.v.sn := List.mem_map.2 ⟨s, hs, rfl⟩
  have hg := (h5.all s.v hm).2
  have h6 := (vw_iff _ _ _ _).1 hg.vw
  have hr : s.vw.row.length ≤ 256 := mk_short h6.2.2.1
  have hp : s.vw.par.length ≤ 20 := lk_short h6.2.2.2
  have hnm : s.name.length ≤ 20 := (named_len hg.name).2
  have hch : s.ch.length ≤ 10000 := hf s.v hm
  refine ⟨⟨by omega, by omega⟩, by omega, hch, fun c hc => ?_⟩
  have := (named_len (((up_nil _).1 hg.up).1 c hc)).2
  omega
theorem undo_lock {v v1 : HdV} {n : Int} (h : AcqO v n v1) (ho : v.ow = -1) (hi : v.it = 0) : (∀ k, ¬ RelE v1 n k) ∧ ∀ v2, RelO v1 n v2 → v2 = v := by
  obtain ⟨h1, h2, _, rfl⟩ := h
  have hb : ownedB { v with ow := n } n = true := by
    unfold ownedB
    show ((n != -1) && (n == n)) = true
    have : (n != -1) = true := by simp; omega
    rw [this]; simp
  refine ⟨fun k hk => ?_, fun v2 h => ?_⟩
  · rcases hk with ⟨h, _⟩ | ⟨_, h, _⟩
    · rw [hb] at h; cases h
    · exact h hi
  · obtain ⟨_, _, rfl⟩ := h
    cases v
    simp only at ho
    subst ho
    rfl
/-- the snapshot that is made -/
def newS (v : HdV) (n : List Nat) (pr : Bool) (ch : List (List Nat)) : SnV := ⟨v.seq + 1, v.size, n, pr, v.mx, v.lk, ch⟩
/-- the head behind it -/
def mid (v : HdV) (n : List Nat) (pr : Bool) (ch : List (List Nat)) : HdV := { SnpV v n with sn := v.sn ++ [newS v n pr ch] }
theorem snp_mid {v v' : HdV} {n : List Nat} (h : SnpO v n v') : v' = mid v n false [] := h.2.2.2.2.2
theorem mid_at (v : HdV) (n : List Nat) (pr : Bool) (ch : List (List Nat)) : (mid v n pr ch).sn[v.sn.length]? = some (newS v n pr ch) := by
  show (v.sn ++ [_])[v.sn.length]? = _
  rw [List.getElem?_append_right (Nat.le_refl _), Nat.sub_self]
  rfl
theorem mid_set (v : HdV) (n : List Nat) (p q : Bool) (c d : List (List Nat)) : (mid v n p c).setSn v.sn.length (newS v n q d) = mid v n q d := by
  unfold HdV.setSn mid
  simp only
  rw [List.set_append_right _ _ (Nat.le_refl _), Nat.sub_self]
  rfl
theorem mid_name {v : HdV} {n : List Nat} (h : idxS v n < 0) (pr : Bool) (ch : List (List Nat)) : idxS (mid v n pr ch) n = (v.sn.length : Int) :=
  idx_last _ v.sn (newS v n pr ch) ((idx_neg _ _).1 h) (by show decide (n = n) = true; simp)
theorem mid_num {v : HdV} (hB : v.B = true) (n : List Nat) (pr : Bool) (ch : List (List Nat)) (it tg : Int) : idxN { mid v n pr ch with it := it, tg := tg } (v.seq + 1) = (v.sn.length : Int) :=
  idx_last _ v.sn (newS v n pr ch) (fun s hs => by
    have := (((sns_iff v).1 ((B_iff v).1 hB).2.2.2.2.1).all s hs).2.le
    show (s.num == v.seq + 1) = false
    rw [beq_eq_false_iff_ne]; omega) (by show (v.seq + 1 == v.seq + 1) = true; simp)
theorem mid_num' {v : HdV} (hB : v.B = true) (n : List Nat) (pr : Bool) (ch : List (List Nat)) : idxN (mid v n pr ch) (v.seq + 1) = (v.sn.length : Int) := mid_num hB n pr ch (mid v n pr ch).it (mid v n pr ch).tg
/-- what the undoing of a snapshot's making asks of what was there -/
structure UnS (v : HdV) (n : List Nat) : Prop where
  B : v.B = true
  it : v.it = 0
  nm : idxS v n < 0
  sq : v.seq + 1 ≤ 9223372036854775807
theorem unS_of {v v' : HdV} {n : List Nat} (h : SnpO v n v') (hB : v.B = true) (hq : v.seq ≤ 9223372036854775807) : UnS v n := ⟨hB, h.1, h.2.2.1, by have := h.2.2.2.2.1; omega⟩
theorem mid_it {v : HdV} {n : List Nat} (h : UnS v n) (pr : Bool) (ch : List (List Nat)) : (mid v n pr ch).it = 0 := h.it
theorem sn_same {v : HdV} {n : List Nat} (h : UnS v n) {pr : Bool} {ch : List (List Nat)} {i : Nat} {s : SnV} (hi : idxS (mid v n pr ch) n = (i : Int)) (hs : (mid v n pr ch).sn[i]? = some s) : i = v.sn.length ∧ s = newS v n pr ch := by
  rw [mid_name h.nm] at hi
  have e : i = v.sn.length := by omega
  subst e
  rw [mid_at] at hs
  injection hs with hs
  exact ⟨rfl, hs.symm⟩
theorem un_pro {v : HdV} {n : List Nat} (h : UnS v n) : (∀ k, ¬ ChsEP (mid v n false []) n (ProE (mid v n false []).it (mid v n false []).tg) k) ∧ ∀ v', ChsOP (mid v n false []) n (fun i s v' => ProO (mid v n false []).it (mid v n false []).tg s ∧ v' = (mid v n false []).setSn i { s with prot := true }) v' → v' = mid v n true [] := by
  refine ⟨fun k hk => ?_, fun v' hv => ?_⟩
  · rcases hk with ⟨hk, _⟩ | ⟨i, s, hi, hs, hp⟩
    · rw [mid_name h.nm] at hk; omega
    · obtain ⟨rfl, rfl⟩ := sn_same h hi hs
      rcases hp with ⟨h3, _⟩ | ⟨_, h3, _⟩
      · rw [mid_it h] at h3; omega
      · cases h3
  · obtain ⟨i, s, hi, hs, _, rfl⟩ := hv
    obtain ⟨rfl, rfl⟩ := sn_same h hi hs
    exact mid_set v n false true [] []
theorem fnd_nil {x : List Nat} {i : Nat} {b : Bool} (h : Fnd [] x i b) : i = 0 := by have := h.le; simpa using this
theorem un_add {v : HdV} {n x : List Nat} (h : UnS v n) {v' : HdV} (hv : ChsOP (mid v n true []) n (fun i s v' => ∃ s', AddO x s s' ∧ v' = (mid v n true []).setSn i s') v') : v' = mid v n true [x] ∧ namedB x = true := by
  obtain ⟨i, s, hi, hs, s', ⟨hn, _, j, hf, rfl⟩, rfl⟩ := hv
  obtain ⟨rfl, rfl⟩ := sn_same h hi hs
  obtain rfl := fnd_nil hf
  exact ⟨mid_set v n true true [] [x], hn⟩
theorem fnd_one {x : List Nat} {j : Nat} {b : Bool} (h : Fnd [x] x j b) : j = 0 ∧ b = true := by
  have hle := h.le
  have h0 : j = 0 := by
    rcases Nat.eq_zero_or_pos j with h0 | h0
    · exact h0
    · have hj : j = 1 := by simp at hle; omega
      subst hj
      have := h.lo x (by omega) rfl
      rw [ltS_self] at this
      cases this
  subst h0
  refine ⟨rfl, ?_⟩
  rw [h.is]
  simp
theorem un_dro {v : HdV} {n x : List Nat} (h : UnS v n) : (∀ k, ¬ DroE (mid v n true [x]) (v.seq + 1) x k) ∧ ∀ v', DroO (mid v n true [x]) (v.seq + 1) x v' → v' = mid v n true [] := by
  have hnum := mid_num' h.B n true [x]
  have hat : ∀ {i : Nat} {s : SnV}, idxN (mid v n true [x]) (v.seq + 1) = (i : Int) → (mid v n true [x]).sn[i]? = some s → i = v.sn.length ∧ s = newS v n true [x] := fun {i s} hi hs => by
    rw [hnum] at hi
    have e : i = v.sn.length := by omega
    subst e
    rw [mid_at] at hs
    injection hs with hs
    exact ⟨rfl, hs.symm⟩
  refine ⟨fun k hk => ?_, fun v' hv => ?_⟩
  · rcases hk with ⟨hk, _⟩ | ⟨i, s, hi, hs, ⟨j, hf⟩, _⟩
    · rw [hnum] at hk; omega
    · obtain ⟨rfl, rfl⟩ := hat hi hs
      have := (fnd_one hf).2
      cases this
  · obtain ⟨i, s, hi, hs, j, hf, rfl⟩ := hv
    obtain ⟨rfl, rfl⟩ := hat hi hs
    obtain ⟨rfl, _⟩ := fnd_one hf
    exact mid_set v n true true [x] []
theorem un_unp {v : HdV} {n : List Nat} (h : UnS v n) : (∀ k, ¬ ChsEP (mid v n true []) n UnpE k) ∧ ∀ v', ChsOP (mid v n true []) n (fun i s v' => UnpO s ∧ v' = (mid v n true []).setSn i { s with prot := false }) v' → v' = mid v n false [] := by
  refine ⟨fun k hk => ?_, fun v' hv => ?_⟩
  · rcases hk with ⟨hk, _⟩ | ⟨i, s, hi, hs, hp⟩
    · rw [mid_name h.nm] at hk; omega
    · obtain ⟨rfl, rfl⟩ := sn_same h hi hs
      rcases hp with ⟨h3, _⟩ | ⟨_, h3, _⟩
      · cases h3
      · exact h3 rfl
  · obtain ⟨i, s, hi, hs, _, rfl⟩ := hv
    obtain ⟨rfl, rfl⟩ := sn_same h hi hs
    exact mid_set v n true false [] []
theorem un_beg {v : HdV} {n : List Nat} (h : UnS v n) : refB (mid v n false []) 3 (v.seq + 1) = 0 := by
  unfold refB
  have hp : protAt (mid v n false []) (v.seq + 1) = false := by
    unfold protAt
    rw [mid_num' h.B]
    simp only [Int.toNat_natCast]
    rw [mid_at]
    rfl
  rw [mid_num' h.B, hp, if_neg (by rw [mid_it h]; simp), if_neg (by omega), if_neg (by omega), if_neg (by omega), if_pos rfl, if_neg (by omega)]
  rfl
theorem un_fin {v : HdV} {n : List Nat} (h : UnS v n) : (∀ k, ¬ FinE { mid v n false [] with it := 3, tg := v.seq + 1 } k) ∧ ∀ v', FinO { mid v n false [] with it := 3, tg := v.seq + 1 } v' → v' = { v with seq := v.seq + 1 } := by
  refine ⟨fun k hk => ?_, fun v' hv => ?_⟩
  · obtain ⟨hk, _⟩ := hk
    have hk : (3 : Int) < 1 ∨ 4 < (3 : Int) := hk
    omega
  · have htg : v.tg = 0 := by
      have h8 := ((B_iff v).1 h.B).2.2.2.2.2.2.2
      rw [itB_iff] at h8
      have := h.it
      rcases h8 with h8 | h8 | h8
      · omega
      · omega
      · exact h8.2
    rcases hv with ⟨h3, _⟩ | ⟨h3, _⟩ | ⟨_, i, s, hi, hs, rfl⟩ | ⟨h3, _⟩
    · have h3 : (3 : Int) = 1 := h3; omega
    · have h3 : (3 : Int) = 2 := h3; omega
    · have hi2 : idxN { mid v n false [] with it := 3, tg := v.seq + 1 } (v.seq + 1) = (i : Int) := hi
      rw [mid_num h.B] at hi2
      have e : i = v.sn.length := by omega
      subst e
      have hs2 : (mid v n false []).sn[v.sn.length]? = some s := hs
      rw [mid_at] at hs2
      injection hs2 with hs2
      subst hs2
      have hlast : ({ mid v n false [] with it := 3, tg := v.seq + 1 } : HdV).sn[v.sn.length + 1]? = none := by
        show (v.sn ++ [_])[v.sn.length + 1]? = none
        exact List.getElem?_eq_none (by simp)
      rw [remV_last hlast]
      have he : (v.sn ++ [newS v n false []]).eraseIdx v.sn.length = v.sn := by
        rw [List.eraseIdx_append_of_length_le (Nat.le_refl _), Nat.sub_self]
        simp
      have hm : follMx ⟨v.mx.on, v.mx.good, frozenM v.mx.row⟩ v.mx = v.mx := by
        unfold follMx
        simp only [foll_frozen, Bool.and_self]
      show ({ id := v.id, size := v.size, obj := v.obj, seq := v.seq + 1, sn := (v.sn ++ [newS v n false []]).eraseIdx v.sn.length, mx := follMx ⟨v.mx.on, v.mx.good, frozenM v.mx.row⟩ v.mx, lk := v.lk, ow := v.ow, it := 0, tg := 0 } : HdV) = _
      rw [he, hm]
      have hit := h.it
      cases v
      simp only at hit htg
      subst hit htg
      rfl
    · have h3 : (3 : Int) = 4 := h3; omega
theorem mid_few {v : HdV} {n : List Nat} {m : Nat} (hm : 1 ≤ m) (h : Few m v) (pr : Bool) {ch : List (List Nat)} (hc : ch.length ≤ 1) : Few m (mid v n pr ch) := fun s hs => by
  have hs : s ∈ v.sn ++ [newS v n pr ch] := hs
  rcases List.mem_append.1 hs with hs | hs
  · exact h s hs
  · obtain rfl := List.mem_singleton.1 hs
    show ch.length ≤ m
    omega
theorem mid_pr {v : HdV} {n : List Nat} (hB : (mid v n false []).B = true) : (mid v n true []).B = true := by
  have := pro_B hB (mid_at v n false [])
  rwa [show ({ newS v n false [] with prot := true } : SnV) = newS v n true [] from rfl, mid_set] at this
theorem mid_ch {v : HdV} {n x : List Nat} (hB : (mid v n true []).B = true) (hx : namedB x = true) : (mid v n true [x]).B = true := by
  have h1 : AddO x (newS v n true []) (newS v n true [x]) := ⟨hx, rfl, 0, ⟨by simp, fun c h => by omega, fun c h => by simp [newS] at h, by simp [newS]⟩, rfl⟩
  have := add_B hB (mid_at v n true []) h1
  rwa [mid_set] at this
end Go.Proofs.Ytiimanoloedbeaa

/-
  The fixed fact of the law of package rules. No condition.
-/
namespace Go.Proofs.Ytiimanoloedbeaa
open Go.RowKit Go.BigFrame
set_option linter.unusedSimpArgs false
set_option linter.unusedVariables false
set_option maxRecDepth 100000
/-- a head in a variable -/
structure Loc (w : World) (g : Nat) (q : HA) : Prop where
  blk : Blk w g 36 q.cs
  R : q.R SA.cells w
theorem Loc.below {w w' : World} {g : Nat} {q : HA} (h : Loc w g q) (hb : Below w.heap.size w w') : Loc w' g q := ⟨h.blk.of (hb.block g h.blk.lt), h.R.since hb⟩
theorem new_below {w w2 : World} {ob : Obj} (o : Only [w.heap.size] (w.alloc ob) w2) : Below w.heap.size w w2 := (below_alloc w ob).trans (o.below (fun x hx => by simp at hx; omega) (by simp))
theorem new_loc {w w2 : World} {ob : Obj} {q : HA} (hR : q.R SA.cells w) (o : Only [w.heap.size] (w.alloc ob) w2) (k : Blk w2 w.heap.size 36 q.cs) : Loc w2 w.heap.size q := ⟨k, hR.since (new_below o)⟩
/-- a call that has no error -/
theorem ans_ok {w w' : World} {v : HdV} {PE : Nat → Prop} {PO : HdV → Prop} {e : Ending} (h : AnsTo w v PE PO e w') (hB : v.B = true) (hE : ∀ k, ¬ PE k) : ∃ q : HA, e = .returned (.tuple #[.agg q.cs, .nilIface]) ∧ q.R SA.cells w' ∧ PO q.v ∧ Below w.heap.size w w' := by
  obtain ⟨b, h | ⟨_, k, _, _, hp⟩ | ⟨_, q, he, hN, ho⟩⟩ := h
  · rw [hB] at h; cases h.1
  · exact absurd hp (hE k)
  · exact ⟨q, he, hN.R, ho, b⟩
/-- a call: an error, or an answer -/
theorem ans_two {w w' : World} {v : HdV} {PE : Nat → Prop} {PO : HdV → Prop} {e : Ending} (h : AnsTo w v PE PO e w') : Below w.heap.size w w' ∧ ((∃ k, e = .returned (.tuple #[.agg #[.int .i64 0, .int .i64 0, .int .i64 0, .int .i64 0, .slice none 0 0, .bool false, .bool false, .slice none 0 0, .string ⟨#[]⟩, .int .i64 0, .int .i64 0, .int .i64 0, .int .i64 0, .int .i64 0], errV (k + 1)])) ∨ ∃ q : HA, e = .returned (.tuple #[.agg q.cs, .nilIface]) ∧ q.R SA.cells w' ∧ PO q.v ∧ v.B = true) := by
  obtain ⟨b, ⟨_, he⟩ | ⟨_, k, he, hk, _⟩ | ⟨hB, q, he, hN, ho⟩⟩ := h
  · exact ⟨b, .inl ⟨1, he⟩⟩
  · exact ⟨b, .inl ⟨k - 1, by rw [he, show k - 1 + 1 = k by omega]; rfl⟩⟩
  · exact ⟨b, .inr ⟨q, he, hN.R, ho, hB⟩⟩
set_option maxHeartbeats 8000000 in
theorem ralive_any (w : World) : Calls Try.prog 25 #[] w fun e w' => e = .returned (.bool true) ∧ Below w.heap.size w w' := by
  have HA := Lib.hid (acquire_any a0 w 3 (by unfold I64; omega) (a0_R w) a0_Sm)
  have hcs : a0.cs = #[.int .i64 0, .int .i64 0, .int .i64 16, .int .i64 0, .slice none 0 0, .bool false, .bool false, .slice none 0 0, .string ⟨#[]⟩, .int .i64 0, .int .i64 0, .int .i64 (-1), .int .i64 0, .int .i64 0] := rfl
  rw [hcs] at HA
  have hz := head_zero
  clear hcs
  go_enter Try.func25, Try.ntmps25
  go_wp2_with fail
  refine HA.out.mono ?_
  rintro e w1 h
  obtain ⟨q, rfl, hR, ho, b1⟩ := ans_ok h a0_B (fun k hk => by
    rcases hk with ⟨h, _⟩ | ⟨_, _, h, _⟩
    · omega
    · exact h rfl)
  have hv : q.v = { a0.v with ow := 3 } := ho.2.2.2
  have how : q.ow = 3 := congrArg HdV.ow hv
  have hB : q.v.B = true := by rw [hv]; decide
  have hS : q.Sm := sm_good hB (by rw [hv]; exact fun s hs => (by cases hs))
  have H1 := Lib.hid (And.intro b1 (And.intro hR (And.intro hv (And.intro hB (And.intro hS how)))))
  have K1 : Blk (w1.alloc (.cells #[.int .i64 0, .int .i64 0, .int .i64 0, .int .i64 0, .slice none 0 0, .bool false, .bool false, .slice none 0 0, .string ⟨#[]⟩, .int .i64 0, .int .i64 0, .int .i64 0, .int .i64 0, .int .i64 0] 36)) w1.heap.size 36 #[.int .i64 0, .int .i64 0, .int .i64 0, .int .i64 0, .slice none 0 0, .bool false, .bool false, .slice none 0 0, .string ⟨#[]⟩, .int .i64 0, .int .i64 0, .int .i64 0, .int .i64 0, .int .i64 0] := Blk.new _ _ _
  clear h ho b1 hR hv hB hS HA how
  unfold HA.cs
  go_wp2_with (first
    | (have _h := K1; refine wpList_storeq rfl 36 (.tmp 1) (.tmp 8) rfl (w1.heap.size) _ [.int .i64 q.id, .int .i64 q.vw.size, .int .i64 q.obj, .int .i64 q.seq, .slice q.S q.sn.length q.cs', .bool q.vw.on, .bool q.vw.good, .slice q.vw.M q.vw.row.length q.vw.cm, .string (strOf q.vw.par), .int .i64 q.vw.ps, .int .i64 q.vw.ov, .int .i64 q.ow, .int .i64 q.it, .int .i64 q.tg] rfl rfl K1 (by simp) (by kernel_rfl) (one14 _ _ _ _ _ _ _ _ _ _ _ _ _ _ _ _ _ _) ?_; clear _h K1; intro w2 K2 o2 s2; have q11 : w2.cell? ⟨w1.heap.size, 11, none⟩ = some (.int .i64 3) := by { have h := K2.cell 11; rw [h]; show some (Value.int .i64 q.ow) = _; rw [H1.out.2.2.2.2.2] }; have HB2 := Lib.hid (new_below o2); have HL := Lib.hid (new_loc H1.out.2.1 o2 K2))
    | (have _h := K2; refine wpList_loadq rfl 36 (.tmp 1) rfl (w1.heap.size) [.int .i64 q.id, .int .i64 q.vw.size, .int .i64 q.obj, .int .i64 q.seq, .slice q.S q.sn.length q.cs', .bool q.vw.on, .bool q.vw.good, .slice q.vw.M q.vw.row.length q.vw.cm, .string (strOf q.vw.par), .int .i64 q.vw.ps, .int .i64 q.vw.ov, .int .i64 q.ow, .int .i64 q.it, .int .i64 q.tg] _ rfl K2 Try.underlying36 rfl (by kernel_rfl) ?_; clear _h K2))
  have HA2 := Lib.hid (acquire_any q w2 4 (by unfold I64; omega) HL.out.R H1.out.2.2.2.2.1)
  refine HA2.out.mono ?_
  rintro e w3 ⟨b3, ⟨hB, _⟩ | ⟨_, k, rfl, hk0, hE⟩ | ⟨_, r, _, _, hO⟩⟩
  · rw [H1.out.2.2.2.1] at hB; cases hB
  · have hk : k = 9 := by
      rcases hE with ⟨h, _⟩ | ⟨_, _, _, _, h⟩
      · omega
      · exact h
    subst hk
    have HI := Lib.hid (fun W => is_any 9 9 W)
    have HB3 := Lib.hid b3
    have HL3 := Lib.hid (HL.out.below b3)
    have K3 : Blk (w3.alloc (.cells #[.int .i64 0, .int .i64 0, .int .i64 0, .int .i64 0, .slice none 0 0, .bool false, .bool false, .slice none 0 0, .string ⟨#[]⟩, .int .i64 0, .int .i64 0, .int .i64 0, .int .i64 0, .int .i64 0] 36)) w3.heap.size 36 #[.int .i64 0, .int .i64 0, .int .i64 0, .int .i64 0, .slice none 0 0, .bool false, .bool false, .slice none 0 0, .string ⟨#[]⟩, .int .i64 0, .int .i64 0, .int .i64 0, .int .i64 0, .int .i64 0] := Blk.new _ _ _
    clear hE hk0 b3 q11
    simp only [errV, Z14]
    go_wp2_with (have _h := K3; refine wpList_storeq rfl 36 (.tmp 3) (.tmp 20) rfl (w3.heap.size) _ [.int .i64 0, .int .i64 0, .int .i64 0, .int .i64 0, .slice none 0 0, .bool false, .bool false, .slice none 0 0, .string ⟨#[]⟩, .int .i64 0, .int .i64 0, .int .i64 0, .int .i64 0, .int .i64 0] rfl rfl K3 (by simp) (by kernel_rfl) (one14 _ _ _ _ _ _ _ _ _ _ _ _ _ _ _ _ _ _) ?_; clear _h K3; intro w4 K4 o4 s4; have HB4 := Lib.hid (new_below o4))
    have HL4 := Lib.hid (HL3.out.below HB4.out)
    refine (HI.out w4).mono ?_
    rintro e w5 ⟨rfl, rfl⟩
    have K5 : Blk w4 w1.heap.size 36 #[.int .i64 q.id, .int .i64 q.vw.size, .int .i64 q.obj, .int .i64 q.seq, .slice q.S q.sn.length q.cs', .bool q.vw.on, .bool q.vw.good, .slice q.vw.M q.vw.row.length q.vw.cm, .string (strOf q.vw.par), .int .i64 q.vw.ps, .int .i64 q.vw.ov, .int .i64 q.ow, .int .i64 q.it, .int .i64 q.tg] := HL4.out.blk
    rw [show ((9 : Nat) == 9) = true from rfl]
    have k0 : w4.cell? ⟨w1.heap.size, 0, none⟩ = some (.int .i64 q.id) := K5.cell 0
    have k1 : w4.cell? ⟨w1.heap.size, 1, none⟩ = some (.int .i64 q.vw.size) := K5.cell 1
    have k2 : w4.cell? ⟨w1.heap.size, 2, none⟩ = some (.int .i64 q.obj) := K5.cell 2
    have k3 : w4.cell? ⟨w1.heap.size, 3, none⟩ = some (.int .i64 q.seq) := K5.cell 3
    have k4 : w4.cell? ⟨w1.heap.size, 4, none⟩ = some (.slice q.S q.sn.length q.cs') := K5.cell 4
    have k5 : w4.cell? ⟨w1.heap.size, 5, none⟩ = some (.bool q.vw.on) := K5.cell 5
    have k6 : w4.cell? ⟨w1.heap.size, 6, none⟩ = some (.bool q.vw.good) := K5.cell 6
    have k7 : w4.cell? ⟨w1.heap.size, 7, none⟩ = some (.slice q.vw.M q.vw.row.length q.vw.cm) := K5.cell 7
    have k8 : w4.cell? ⟨w1.heap.size, 8, none⟩ = some (.string (strOf q.vw.par)) := K5.cell 8
    have k9 : w4.cell? ⟨w1.heap.size, 9, none⟩ = some (.int .i64 q.vw.ps) := K5.cell 9
    have k10 : w4.cell? ⟨w1.heap.size, 10, none⟩ = some (.int .i64 q.vw.ov) := K5.cell 10
    have k11 : w4.cell? ⟨w1.heap.size, 11, none⟩ = some (.int .i64 q.ow) := K5.cell 11
    have k12 : w4.cell? ⟨w1.heap.size, 12, none⟩ = some (.int .i64 q.it) := K5.cell 12
    have k13 : w4.cell? ⟨w1.heap.size, 13, none⟩ = some (.int .i64 q.tg) := K5.cell 13
    clear K5
    go_wp2_with fail
    have HO := Lib.hid (ownsc_any q w4 3 HL4.out.R H1.out.2.2.2.2.1)
    refine HO.out.mono ?_
    rintro e w6 ⟨b6, ⟨hB, _⟩ | ⟨_, hB, _⟩ | ⟨_, _, rfl⟩⟩
    · rw [H1.out.2.2.2.1] at hB; cases hB
    · exfalso
      rw [H1.out.2.2.1] at hB
      exact absurd hB (by decide)
    · have HB6 := Lib.hid b6
      clear b6
      go_wp2
      go_ret
      have h2 := HB2.out
      exact ⟨rfl, H1.out.1.trans ((h2.trans ((HB3.out.trans ((HB4.out.trans (HB6.out.mono HB4.out.size)).mono HB3.out.size)).mono h2.size)).mono H1.out.1.size)⟩
  · exfalso
    obtain ⟨_, _, h, _⟩ := hO
    have e : q.v.ow = 3 := H1.out.2.2.2.2.2
    omega
end Go.Proofs.Ytiimanoloedbeaa

/-
  A head as the document's. Conditions: it reads as it is said to, and is small.
-/
namespace Go.Proofs.Ytiimanoloedbeaa
open Go.RowKit Go.BigFrame
set_option linter.unusedSimpArgs false
set_option linter.unusedVariables false
set_option maxRecDepth 100000
end Go.Proofs.Ytiimanoloedbeaa
