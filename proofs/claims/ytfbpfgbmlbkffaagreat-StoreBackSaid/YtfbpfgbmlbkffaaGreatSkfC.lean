/-
  An object is taken. Conditions: the store and the reader lie where they are said to.
-/
import Derived.Test.YtfbpfgbmlbkffaaGreatZi
import Derived.Test.YtfbpfgbmlbkffaaGreatSkeC
namespace Go.Proofs.YtfbpfgbmlbkffaaGreat
open Go.RowKit Go.BigFrame
set_option linter.unusedSimpArgs false
set_option linter.unusedVariables false
set_option maxRecDepth 100000
theorem StAt.off {w w' : World} {G : List Nat} {gs ms gp r c : Nat} {A : Option Addr} {bl fl : List Bool} {kv : KV} (h : StAt w gs ms gp r c A bl fl kv) (ho : Only G w w') (hG : ∀ k ∈ G, k ≠ gs ∧ k ≠ ms ∧ k ∉ foot gp r fl) : StAt w' gs ms gp r c A bl fl kv := by
  refine ⟨h.blk.of (ho.block _ h.blk.lt fun hm => (hG _ hm).1 rfl), h.len, h.map.of (ho.block _ h.map.lt fun hm => (hG _ hm).2.1 rfl), ⟨h.sp.blk.of (ho.block _ h.sp.blk.lt fun hm => (hG _ hm).2.2 (by unfold foot; split <;> simp)), h.sp.cap, h.sp.lim, ?_⟩, h.ne⟩
  rcases h.sp.row with e | ⟨e, cs, hb, hc⟩
  · exact .inl e
  · by_cases hf : fl = []
    · exact .inl hf
    · exact .inr ⟨e, cs, hb.of (ho.block _ hb.lt fun hm => (hG _ hm).2.2 (by unfold foot; rw [if_neg hf]; simp)), hc⟩
theorem obs_typed {w w' : World} {Z G : List Nat} {kv : KV} {ob : List (Key × Ob)} (h : Rel2 (ObjR w Z) kv ob) (ho : Only G w w') (hG : ∀ k ∈ G, ∃ t cs, Blk w k t cs ∧ t ≠ 99 ∧ t ≠ 5 ∧ t ≠ 81) : Rel2 (ObjR w' Z) kv ob :=
  h.imp fun a b hr => ⟨hr.1, by
    obtain ⟨go, mb, c1, ce, D, E, kv1, e, hmb, hat⟩ := hr.2
    refine ⟨go, mb, c1, ce, D, E, kv1, e, hmb, hat.only ho (fun k hk hl => ?_) (fun hm => ?_)⟩
    · obtain ⟨t, cs, hb, h1, h2, h3⟩ := hG k hk
      exact ⟨Odd.blk hb h1, Odd.blk hb h2, Odd.blk hb h3⟩
    · obtain ⟨t, cs, hb, _⟩ := hG _ hm
      exact hat.map.ne_blk hb rfl⟩
/-- what take comes to -/
def TkOTo (w : World) (Z : List Nat) (base g gs ms gp r c1 : Nat) (A : Option Addr) (M : Mod) (F : List Nat) (s : RD) (e : Ending) (w' : World) : Prop :=
  Only (g :: ms :: foot gp r M.fl) w w' ∧ ((tkO s M = none ∧ e = .returned (.bool false)) ∨ ∃ M' s' kv' F', tkO s M = some (M', s') ∧ e = .returned (.bool true) ∧ StoreAt w' Z gs ms gp r c1 A M' kv' ∧ Rd w' base F' (some ⟨g, 0, none⟩) s' ∧ (∀ k ∈ F', k ∈ F) ∧ M'.fl.length = M.fl.length ∧ M'.ob.length ≤ M.ob.length + 1 ∧ s'.bs.length + 9 ≤ s.bs.length)
set_option maxHeartbeats 16000000 in
theorem taken_any {w : World} {Z : List Nat} {base g gs ms gp r c1 : Nat} {A : Option Addr} {M : Mod} {kvs : KV} {F : List Nat} {s : RD} (hS : StoreAt w Z gs ms gp r c1 A M kvs) (hZ : ms ∈ Z) (hZl : ∀ z ∈ Z, z < w.heap.size) (hR : Rd w base F (some ⟨g, 0, none⟩) s) (hB : base ≤ w.heap.size) (hs : s.bs.length ≤ 1000000) (hob : M.ob.length ≤ 1000000) (hF : ∀ k ∈ F, k ∉ ms :: foot gp r M.fl) :
    Calls Tryz.prog 26 #[.pointer (some ⟨gs, 0, none⟩), .pointer (some ⟨g, 0, none⟩)] w (TkOTo w Z base g gs ms gp r c1 A M F s) := by
  have hnsm : ∀ b ∈ s.bytes, b < 256 := RD.got_lt (RD.take_good hR.good 8) _
  have hnl : s.bytes.length ≤ 1000000 := by have := RD.got_le (s.take 8) s.num; have := RD.take_le s 8; unfold RD.bytes; omega
  have hdl : s.bytesTo.bytes.length ≤ 1000000 := by have := RD.got_le (s.bytesTo.take 8) s.bytesTo.num; have := RD.take_le s.bytesTo 8; have := RD.bytesTo_le s; unfold RD.bytes at *; omega
  have hgsl := hS.st.blk.lt
  have hmsl := hS.st.map.lt
  have hfol : ∀ k ∈ foot gp r M.fl, k < w.heap.size := fun k hk => hS.st.sp.foot_lt hk
  have hFl := hR.under
  have HX := Lib.hid (rtext_any w base F (some ⟨g, 0, none⟩) s hR hB)
  have H0 := Lib.hid (And.intro hS (And.intro hR (And.intro hB (And.intro hs (And.intro hob hF)))))
  have HN0 := Lib.hid (And.intro hnsm (And.intro hnl hdl))
  have HL := Lib.hid (And.intro hgsl (And.intro hmsl (And.intro hfol hFl)))
  have hmm := @run_makeMap Tryz.prog
  have hbd : ∀ (D : Option Addr) (n c m : Nat) (w : World), (Instr.build 99 #[(0, .slice D n c), (1, .map (some m))]).run Tryz.prog w = .ok (.agg #[.slice D n c, .map (some m), .slice none 0 0]) w := fun D n c m w => by kernel_rfl
  have HZ := Lib.hid (And.intro hZ hZl)
  clear hS hR hs hob hF hnsm hnl hdl hgsl hmsl hfol hFl hZ hZl
  go_enter Tryz.func26, Tryz.ntmps26
  go_wp2_with fail
  refine HX.out.mono ?_
  rintro e w1 ⟨rfl, F1, r1, o1, f1⟩
  have HY := Lib.hid (rbytes_any w1 base F1 (some ⟨g, 0, none⟩) s.bytesTo r1 (Nat.le_trans hB o1.size) (by have := H0.out.2.2.2.1; have := RD.bytesTo_le s; omega))
  have H1 := Lib.hid (And.intro r1 (And.intro o1 f1))
  clear r1 o1 f1 HX
  go_wp2_with fail
  refine HY.out.mono ?_
  rintro e w2 ⟨v, F2, rfl, hov, r2, o2, f2, hvs, -⟩
  obtain ⟨D, c, rfl, -⟩ := hov.form
  obtain ⟨d, hd⟩ : ∃ d, d = s.bytesTo.bytes := ⟨_, rfl⟩
  rw [← hd] at hov hvs ⊢
  have hdl : d.length ≤ 1000000 := by rw [hd]; exact HN0.out.2.2
  have HD := Lib.hid hd
  have H2 := Lib.hid (And.intro hov (And.intro r2 (And.intro o2 (And.intro f2 hvs))))
  clear hov r2 o2 f2 hvs HY hd
  have m1 : SMap Tryz.prog 9 (w2.alloc (.map #[] 0)) w2.heap.size [] := SMap.new w2
  have s1 : (w2.alloc (.map #[] 0)).heap.size = w2.heap.size + 1 := World.size_alloc _ _
  have b1 : Below w2.heap.size w2 (w2.alloc (.map #[] 0)) := (Below.refl _ _).alloc (Nat.le_refl _) _
  have b2 : Below w2.heap.size w2 ((w2.alloc (.map #[] 0)).alloc (.cells #[.slice D d.length c, .map (some w2.heap.size), .slice none 0 0] 99)) := b1.alloc (by rw [s1]; omega) _
  have K3 := Blk.new (w2.alloc (.map #[] 0)) 99 #[.slice D d.length c, .map (some w2.heap.size), .slice none 0 0]
  have M3 : SMap Tryz.prog 9 ((w2.alloc (.map #[] 0)).alloc (.cells #[.slice D d.length c, .map (some w2.heap.size), .slice none 0 0] 99)) w2.heap.size [] := m1.of (Below.heap_alloc _ _ _ m1.lt)
  obtain ⟨w3, hw3⟩ : ∃ w3, w3 = (w2.alloc (.map #[] 0)).alloc (.cells #[.slice D d.length c, .map (some w2.heap.size), .slice none 0 0] 99) := ⟨_, rfl⟩
  rw [← hw3] at b2 K3 M3
  rw [s1] at K3
  have O3 : ObAt w3 (w2.heap.size + 1) w2.heap.size c 0 D none [] ⟨d, [], []⟩ := ⟨K3, (H2.out.1.below b2).weaken (Nat.zero_le _), H2.out.2.2.2.2, M3, .nil, OwnE.nil _ _⟩
  have HW3 := Lib.hid hw3
  have HN := Lib.hid (isName_any s.bytes HN0.out.1 HN0.out.2.1 w3)
  have H3 := Lib.hid (And.intro O3 b2)
  clear m1 b1 b2 K3 M3 O3 hw3
  go_wp2_with (first | rw [← HW3.out])
  refine HN.out.mono ?_
  rintro e w4 ⟨rfl, b4⟩
  obtain ⟨mb, hmb⟩ : ∃ mb, mb = w2.heap.size := ⟨_, rfl⟩
  obtain ⟨go, hgo⟩ : ∃ go, go = w2.heap.size + 1 := ⟨_, rfl⟩
  have b24 : Below w2.heap.size w2 w4 := H3.out.2.trans (b4.mono H3.out.2.size)
  have O4 : ObAt w4 go mb c 0 D none [] ⟨d, [], []⟩ := by rw [hgo, hmb]; exact H3.out.1.below b4
  have R4 := H2.out.2.1.below b24
  have S4 : StAt w4 gs ms gp r c1 A M.bl M.fl kvs := ((H0.out.1.st.rd H1.out.2.1 H0.out.2.1.readers).rd H2.out.2.2.1 H1.out.1.readers).below b24
  have N4 : Only (g :: foot gp r M.fl) w w4 := ((H1.out.2.1.mono (fun k hk => by simp [heads] at hk; simp [hk])).trans H2.out.2.2.1 (fun k hk => by simp [heads] at hk; simp [hk])).trans (Only.of_below b24 []) (fun k hk => by cases hk)
  have hz1 := H1.out.2.1.size
  have hz2 := H2.out.2.2.1.size
  have hz4 := b24.size
  have hmbl : w.heap.size ≤ mb := by omega
  have hgol : w.heap.size ≤ go := by omega
  have hF2 : ∀ k ∈ F2, k ∈ F := fun k hk => H1.out.2.2 k (H2.out.2.2.2.1 k hk)
  have c0 : w4.cell? ⟨w2.heap.size + 1, 0, none⟩ = some (.slice D d.length c) := by rw [← hgo]; exact O4.blk.cell 0
  have hmbF : mb ∉ F2 := fun hm => by have := HL.out.2.2.2 _ (hF2 _ hm); omega
  have hle2 : s.bytesTo.bytesTo.bs.length ≤ s.bs.length := Nat.le_trans (RD.bytesTo_le _) (RD.bytesTo_le _)
  have H4 := Lib.hid (And.intro O4 (And.intro R4 (And.intro S4 (And.intro N4 (And.intro hF2 hle2)))))
  have HG := Lib.hid (And.intro hmbl (And.intro hgol hmbF))
  have HBS : Hid (base ≤ w4.heap.size) := Lib.hid (by omega)
  rw [← hgo] at c0 ⊢
  clear O4 R4 S4 N4 hF2 b24 b4 HN HW3 hmbF hle2 hz1 hz2 hz4 H3 hmm hbd
  clear hmb hgo
  have wide : ∀ w', Only (g :: foot gp r M.fl) w w' → Only (g :: ms :: foot gp r M.fl) w w' := fun w' h => h.mono (fun k hk => by
    rcases List.mem_cons.1 hk with e | hk
    · simp [e]
    · exact List.mem_cons_of_mem _ (List.mem_cons_of_mem _ hk))
  have HWD := Lib.hid wide
  clear wide
  cases hnm : isNameB s.bytes
  -- {N
  · have hnone : tkO s M = none := tkO_none (fun h => by rw [hnm] at h; cases h.1)
    have HFIN := Lib.hid (show TkOTo w Z base g gs ms gp r c1 A M F s (.returned (.bool false)) w4 from ⟨HWD.out _ H4.out.2.2.2.1, .inl ⟨hnone, rfl⟩⟩)
    clear hnone hnm
    go_wp2
    go_ret
    exact HFIN.out
  -- N}
  · by_cases hlen : d.length ≤ 65536
    · have hd1 : decide ((65536 : Int) < (d.length : Int)) = false := decide_eq_false (by omega)
      have HA := Lib.hid (takea_any H4.out.1 H4.out.2.1 HBS.out (by have := H4.out.2.2.2.2.2; have := H0.out.2.2.2.1; omega) (by simp) HG.out.2.2)
      have HNM := Lib.hid hnm
      clear hnm
      go_wp2_with fail
      refine HA.out.mono ?_
      rintro e w5 ⟨ho5, hcase⟩
      have N5 : Only (g :: foot gp r M.fl) w w5 := H4.out.2.2.2.1.trans ho5 (fun k hk => by
        simp at hk
        rcases hk with e | e
        · exact .inl (by simp [e])
        · exact .inr (by rw [e]; exact HG.out.1))
      rcases hcase with ⟨hn, rfl⟩ | ⟨a', s3, kv', F3, hA, rfl, O5, R5, f5, hl5⟩
      -- {A
      · have hnone : tkO s M = none := tkO_noA hn
        have HFIN := Lib.hid (show TkOTo w Z base g gs ms gp r c1 A M F s (.returned (.bool false)) w5 from ⟨HWD.out _ N5, .inl ⟨hnone, rfl⟩⟩)
        clear hnone hn N5 ho5 HA c0
        go_wp2
        go_ret
        exact HFIN.out
      -- A}
      · have hgg : g < w.heap.size := H0.out.2.1.under g (H0.out.2.1.head g (by simp [heads]))
        have hgR : ∃ cs, Blk w4 g 112 cs := H4.out.2.1.readers g (by simp [heads])
        have S5 : StAt w5 gs ms gp r c1 A M.bl M.fl kvs := H4.out.2.2.1.off ho5 (fun k hk => by
          have h1 := HL.out
          simp at hk
          rcases hk with e | e
          · subst e
            obtain ⟨cs, hb⟩ := hgR
            refine ⟨fun e => ?_, fun e => ?_, fun hm => ?_⟩
            · subst e; exact hb.ne_ H4.out.2.2.1.blk (by decide) rfl
            · subst e; exact H4.out.2.2.1.map.ne_blk hb rfl
            · exact H4.out.2.2.1.sp.foot_odd (by decide) (by decide) hm _ hb
          · subst e
            have h2 := HG.out.1
            exact ⟨by omega, by omega, fun hm => by have := h1.2.2.1 _ hm; omega⟩)
        have hF3 : ∀ k ∈ F3, k ∈ F := fun k hk => H4.out.2.2.2.2.1 k (f5 k hk)
        have HE := Lib.hid (takee_any (w0 := w) S5 (show ObAt w5 go mb c 0 D none kv' ⟨d, a', []⟩ from O5) R5 hB (by have := H4.out.2.2.2.2.2; have := H0.out.2.2.2.1; omega) hlen N5 HG.out.2.1 HG.out.1 HL.out.1 HL.out.2.1 HL.out.2.2.1 (fun k hk hm => H0.out.2.2.2.2.2 k (hF3 k hk) (List.mem_cons_of_mem _ hm)) (fun k hk => HL.out.2.2.2 k (hF3 k hk)))
        have H5 := Lib.hid (And.intro hA (And.intro hF3 hl5))
        clear S5 O5 R5 f5 hl5 hA hF3 N5 ho5 HA c0 hgR
        go_wp2_with fail
        refine HE.out.mono ?_
        rintro e w6 ⟨N6, hcase⟩
        rcases hcase with ⟨hn, rfl⟩ | ⟨es, fl', s4, ce', E', F4, hE, rfl, S6, hfl6, O6, R6, f6, hl6⟩
        -- {E
        · have hnone : tkO s M = none := tkO_noE H5.out.1 hn
          have HFIN := Lib.hid (show TkOTo w Z base g gs ms gp r c1 A M F s (.returned (.bool false)) w6 from ⟨HWD.out _ N6, .inl ⟨hnone, rfl⟩⟩)
          clear hnone hn N6 HE
          go_wp2
          go_ret
          exact HFIN.out
        -- E}
        · by_cases hll : lens es = needsB d
          -- {T
          · have hd2 : decide (lens es = needsB d) = true := decide_eq_true hll
            have hT := tkO_some (M := M) ⟨HNM.out, by rw [← HD.out]; exact hlen⟩ H5.out.1 hE (by rw [← HD.out]; exact hll)
            rw [← HD.out] at hT
            have hob6 : Rel2 (ObjR w6 Z) kvs M.ob := obs_typed H0.out.1.obs N6 (fun k hk => by
              rcases List.mem_cons.1 hk with rfl | hk
              · obtain ⟨cs, hb⟩ := H0.out.2.1.readers k (by simp [heads])
                exact ⟨_, _, hb, by decide, by decide, by decide⟩
              · obtain ⟨t, cs, hb, rfl | rfl⟩ := H0.out.1.st.sp.foot_typed hk
                · exact ⟨_, _, hb, by decide, by decide, by decide⟩
                · exact ⟨_, _, hb, by decide, by decide, by decide⟩)
            have hkl : kvs.length = M.ob.length := H0.out.1.obs.len
            have hnl := HN0.out.2.1
            have hol := H0.out.2.2.2.2.1
            obtain ⟨w7, hrun, hm7, hg7, -⟩ := run_update_smap (P := Tryz.prog) Tryz.underlying9 Tryz.underlying64 S6.map (keyB s.bytes) (by simp [keyB, maxLen]; omega) (by rw [hkl]; simp only [maxLen]; omega) (.pointer (some ⟨go, 0, none⟩))
            rw [keyB_val] at hrun
            have ho7 : Only [ms] w6 w7 := (Only.refl _ _).grown hg7 (fun g hg => .inl (by injection hg with hg; simp [hg]))
            have hodM : ∀ (e : TypeId), ∀ k ∈ [ms], Odd w6 e k := fun e k hk => by simp at hk; subst hk; exact Odd.map S6.map
            have hmsb : ms ≠ mb := by have := HL.out.2.1; have := HG.out.1; omega
            have S7 : StAt w7 gs ms gp r c1 A M.bl fl' (aput (keyB s.bytes) (.pointer (some ⟨go, 0, none⟩)) kvs) := ⟨S6.blk.of (ho7.block _ S6.blk.lt (by simp; have := S6.map.ne_blk S6.blk; omega)), S6.len, hm7, S6.sp.of (ho7.block _ S6.sp.blk.lt (by simp; have := S6.map.ne_blk S6.sp.blk; omega)) (fun t cs hb => ho7.block _ hb.lt (by simp; have := S6.map.ne_blk hb; omega)), S6.ne⟩
            have O7 : ObAt w7 go mb c ce' D E' kv' ⟨d, a', es⟩ := O6.only ho7 (fun k hk _ => ⟨hodM _ k hk, hodM _ k hk, hodM _ k hk⟩) (by simp; omega)
            have hob7 : Rel2 (ObjR w7 Z) kvs M.ob := hob6.imp fun a b hr => ⟨hr.1, by
              obtain ⟨go', mb', c1', ce, D', E, kv1, e, hmb', hat⟩ := hr.2
              exact ⟨go', mb', c1', ce, D', E, kv1, e, hmb', hat.only ho7 (fun k hk _ => ⟨hodM _ k hk, hodM _ k hk, hodM _ k hk⟩) (fun hm => by simp at hm; subst hm; exact hmb' HZ.out.1)⟩⟩
            have hobN := hob7.put ObjR.key (k := keyB s.bytes) (v := .pointer (some ⟨go, 0, none⟩)) (u := ⟨d, a', es⟩) ⟨rfl, go, mb, c, ce', D, E', kv', rfl, fun hm => by have h1 := HZ.out.2 _ hm; have h2 := HG.out.1; omega, O7⟩
            have hF4 : ∀ k ∈ F4, k ∈ F := fun k hk => H5.out.2.1 k (f6 k hk)
            have R7 : Rd w7 base F4 (some ⟨g, 0, none⟩) s4 := R6.of ho7.size (fun k hk => ho7.block k (R6.under k hk) (fun hm => by
              simp at hm
              subst hm
              exact H0.out.2.2.2.2.2 _ (hF4 _ hk) (by simp)))
            have hu1 := RD.bytes_used (s := s) (name_pos HNM.out).1
            have hu2 := RD.bytesTo_le s.bytesTo
            have hu3 := H5.out.2.2
            have hgl := gput_len (keyB s.bytes) (⟨d, a', es⟩ : Ob) M.ob
            have hfin : TkOTo w Z base g gs ms gp r c1 A M F s (.returned (.bool true)) w7 := ⟨(HWD.out _ N6).trans ho7 (fun k hk => by simp at hk; simp [hk]), .inr ⟨_, s4, _, F4, hT, rfl, ⟨S7, hobN⟩, R7, hF4, hfl6, hgl, by omega⟩⟩
            have HFIN := Lib.hid hfin
            have q0 : w6.cell? ⟨gs, 0, none⟩ = some (.map (some ms)) := S6.c0
            clear hfin S7 O7 hob7 hobN hF4 R7 hu1 hu2 hu3 hgl hob6 hkl hnl hol hm7 hg7 ho7 hodM hmsb hT S6 hfl6 O6 R6 f6 hl6 hE N6 HE hll
            go_wp2
            go_ret
            exact HFIN.out
          -- T}
          -- {U
          · have hd2 : decide (lens es = needsB d) = false := decide_eq_false hll
            have hnone : tkO s M = none := tkO_noL H5.out.1 hE (by rw [← HD.out]; exact hll)
            have HFIN := Lib.hid (show TkOTo w Z base g gs ms gp r c1 A M F s (.returned (.bool false)) w6 from ⟨HWD.out _ N6, .inl ⟨hnone, rfl⟩⟩)
            clear hnone N6 HE S6 hfl6 O6 R6 f6 hl6 hE hll
            go_wp2
            go_ret
            exact HFIN.out
          -- U}
    -- {L
    · have hd1 : decide ((65536 : Int) < (d.length : Int)) = true := decide_eq_true (by omega)
      have hnone : tkO s M = none := tkO_none (fun h => hlen (by rw [HD.out]; exact h.2))
      have HFIN := Lib.hid (show TkOTo w Z base g gs ms gp r c1 A M F s (.returned (.bool false)) w4 from ⟨HWD.out _ H4.out.2.2.2.1, .inl ⟨hnone, rfl⟩⟩)
      clear hnone hnm
      go_wp2
      go_ret
      exact HFIN.out
    -- L}
end Go.Proofs.YtfbpfgbmlbkffaaGreat
