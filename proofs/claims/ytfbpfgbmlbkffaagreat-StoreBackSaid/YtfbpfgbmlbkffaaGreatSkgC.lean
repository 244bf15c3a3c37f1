/-
  A store is taken: Take. Conditions: the bytes read as they are said to.
-/
import Derived.Test.YtfbpfgbmlbkffaaGreatZi
import Derived.Test.YtfbpfgbmlbkffaaGreatSkfC
import Derived.Test.YtfbpfgbmlbkffaaGreatSkaC
import Derived.Test.YtfbpfgbmlbkffaaGreatScmC
namespace Go.Proofs.YtfbpfgbmlbkffaaGreat
open Go.RowKit Go.BigFrame
set_option linter.unusedSimpArgs false
set_option linter.unusedVariables false
set_option maxRecDepth 100000
theorem stset_any {w : World} {gs ms gp r c : Nat} {A : Option Addr} {bl fl : List Bool} {kv : KV} (h : StAt w gs ms gp r c A bl fl kv) {j : Nat} (hj : j < 8) (b : Bool) : StAt (w.setCell ⟨gs, 1 + j, none⟩ (.bool b)) gs ms gp r c A (bl.set j b) fl kv := by
  have hm : ms ≠ gs := h.map.ne_blk h.blk
  have hg : gp ≠ gs := h.sp.blk.ne_ h.blk (by decide)
  refine ⟨?_, by rw [List.length_set]; exact h.len, h.map.of (Below.heap_setCell _ _ _ _ hm), ⟨h.sp.blk.of (Below.heap_setCell _ _ _ _ hg), h.sp.cap, h.sp.lim, ?_⟩, h.ne⟩
  · have := h.blk.set_ (1 + j) (.bool b)
    have e : (stC ms bl gp).setIfInBounds (1 + j) (.bool b) = stC ms (bl.set j b) gp := by
      have hl := h.len
      unfold stC
      rw [List.setIfInBounds_toArray, Nat.add_comm, List.set_cons_succ, List.set_append_left _ _ (by simp; omega), List.map_set]
    rwa [e] at this
  · rcases h.sp.row with e | ⟨e, cs, hb, hc⟩
    · exact .inl e
    · exact .inr ⟨e, cs, hb.of (Below.heap_setCell _ _ _ _ (hb.ne_ h.blk (by decide))), hc⟩
theorem flS_bl (s : RD) : ∀ k, (flS s k).2.length = 8
  | 0 => rfl
  | k + 1 => by rw [flS, List.length_set]; exact flS_bl s k
theorem RD.flagTo_le (s : RD) : s.flagTo.bs.length ≤ s.bs.length := by
  unfold RD.flagTo
  split
  · simp [RD.spoilt]
  · exact RD.take_le _ _
theorem flS_le (s : RD) : ∀ k, (flS s k).1.bs.length ≤ s.bs.length
  | 0 => Nat.le_refl _
  | k + 1 => Nat.le_trans (RD.flagTo_le _) (flS_le s k)
/-- what Take comes to -/
def TakeTo2 (w : World) (Z : List Nat) (bs : List Nat) (e : Ending) (w' : World) : Prop :=
  Below w.heap.size w w' ∧ ((tkM bs = none ∧ e = .returned (.tuple #[.pointer none, errV 2])) ∨ ∃ M gs ms gp r c A kv, tkM bs = some M ∧ e = .returned (.tuple #[.pointer (some ⟨gs, 0, none⟩), .nilIface]) ∧ StoreAt w' (ms :: Z) gs ms gp r c A M kv ∧ w.heap.size ≤ gs ∧ w.heap.size ≤ ms ∧ w.heap.size ≤ gp ∧ (M.fl ≠ [] → w.heap.size ≤ r))
set_option maxHeartbeats 16000000 in
theorem sttake_any {w : World} {Z : List Nat} (hZ0 : ∀ z ∈ Z, z < w.heap.size) {A : Option Addr} {c B : Nat} {bs : List Nat} (hb : Bytes w B A bs.length bs) (hn : bs.length ≤ 1000000) (hP : ∀ M, tkP bs = some M → ∃ n, InvP n M ∧ n ≤ 1000000 ∧ (putM M).length ≤ 3000000) :
    Calls Tryz.prog 7 #[.slice A bs.length c] w (TakeTo2 w Z bs) := by
  have HR := Lib.hid (newr_any A bs.length c bs w B (by omega) hb)
  have H0 := Lib.hid (And.intro hb hP)
  obtain ⟨N, hN⟩ : ∃ N, N = (⟨bs, false⟩ : RD).num := ⟨_, rfl⟩
  have hNr := num_range ⟨bs, false⟩
  rw [← hN] at hNr
  have HNN := Lib.hid hN
  clear hb hP hN
  go_enter Tryz.func7, Tryz.ntmps7
  go_wp2_with fail
  refine HR.out.mono ?_
  rintro e w1 ⟨g, F, rfl, r1, b1⟩
  have HX := Lib.hid (rnum_any w1 w.heap.size F (some ⟨g, 0, none⟩) ⟨bs, false⟩ r1 b1.size)
  rw [← HNN.out] at HX
  have hgF : g ∈ F := r1.head g (by simp [heads])
  have H1 := Lib.hid (And.intro r1 (And.intro b1 hgF))
  clear r1 b1 HR hgF
  go_wp2_with fail
  refine HX.out.mono ?_
  rintro e w2 ⟨rfl, F2, r2, o2, f2⟩
  have b2 : Below w.heap.size w w2 := H1.out.2.1.trans (o2.below (fun k hk => H1.out.1.over k (H1.out.1.head k hk)) H1.out.2.1.size)
  by_cases hok : 0 ≤ N ∧ N ≤ 65536
  -- {K
  · obtain ⟨m, rfl⟩ := Int.eq_ofNat_of_zero_le hok.1
    have HW := Lib.hid (stnew_any m (by omega) w2)
    have o12 := Lib.hid o2.size
    have H2 := Lib.hid (And.intro r2 (And.intro f2 b2))
    clear r2 o2 f2 b2 HX
    go_wp2_with fail
    refine HW.out.mono ?_
    rintro e w3 ⟨p, rfl, gs, ms, gp, r, c1, A1, rfl, hst, hgs, hms, hgp, hr, b3⟩
    obtain ⟨fl, hfl⟩ : ∃ fl, fl = List.replicate m true := ⟨_, rfl⟩
    rw [← hfl] at hst
    have hfll : fl.length ≤ 65536 := by rw [hfl, List.length_replicate]; omega
    obtain ⟨s1, hs1⟩ : ∃ s1, s1 = (⟨bs, false⟩ : RD).take 8 := ⟨_, rfl⟩
    have hs1l : s1.bs.length ≤ 1000000 := by rw [hs1]; exact Nat.le_trans (RD.take_le _ _) hn
    rw [← hs1] at H2
    have R3 := H2.out.1.below b3
    have hFl : ∀ k ∈ F, k < w2.heap.size := fun k hk => Nat.lt_of_lt_of_le (H1.out.1.under k hk) o12.out
    have hz2 := H2.out.2.2.size
    have hz3 := b3.size
    have B3 : Below w.heap.size w w3 := H2.out.2.2.trans (b3.mono hz2)
    have H3 := Lib.hid (And.intro hst (And.intro R3 (And.intro B3 (And.intro hFl (And.intro hfl hs1)))))
    have HB := Lib.hid (And.intro hgs (And.intro hms (And.intro hgp (And.intro hr (And.intro hz2 hz3)))))
    clear hst R3 B3 b3 hgs hms hgp hr hFl hfl HW hz2 hz3 hs1
    go_wp2_with fail
    go_loopw [19] (fun iv wr => ∃ (k : Nat) (Fk : List Nat), k ≤ 8 ∧ iv = .int .i64 k ∧ StAt wr gs ms gp r c1 A1 (flS s1 k).2 fl [] ∧ Rd wr w.heap.size Fk (some ⟨g, 0, none⟩) (flS s1 k).1 ∧ (∀ b ∈ Fk, b ∈ F) ∧ Below w.heap.size w wr ∧ w3.heap.size ≤ wr.heap.size) (fun iv _ => 8 - (intS iv).toNat)
    case atStart => exact ⟨0, F2, by omega, rfl, H3.out.1, H3.out.2.1, H2.out.2.1, H3.out.2.2.1, Nat.le_refl _⟩
    case round =>
      obtain ⟨k, Fk, hk, rfl, hSk, hRk, hFk, hBk, hzk⟩ := hrel
      have hwk : IntKind.i64.wrap ((k : Int) + 1) = (k : Int) + 1 := by rw [IntKind.wrap_i64]; omega
      by_cases hlt : k < 8
      -- {F
      · have hk8 : (k : Int) < 8 := by omega
        have hdk : decide ((k : Int) < 8) = true := decide_eq_true hk8
        have RD0 : Rd wr.drew w.heap.size Fk (some ⟨g, 0, none⟩) (flS s1 k).1 := hRk.of (Nat.le_refl _) (fun _ _ => rfl)
        have HFL := Lib.hid (rflag_any wr.drew w.heap.size Fk (some ⟨g, 0, none⟩) (flS s1 k).1 RD0 hBk.size)
        have HK := Lib.hid (And.intro hSk (And.intro RD0 (And.intro hFk (And.intro hBk hzk))))
        clear hSk hRk hFk hBk hzk RD0
        go_upto_region 8 with (fail)
        refine any_beginL (fun _ => True) 99 (by kernel_rfl) ?_
        refine S_take (i := 0) (v := .pointer (some ⟨gs, 0, none⟩)) rfl rfl (by kernel_rfl) (by kernel_rfl) (by kernel_rfl) (fun _ _ _ h => h) (Or.inl ⟨by rfl, fun w hw => by kernel_rfl⟩) trivial ?_
        simp only [Act.put, List.getElem_toArray, List.getElem_cons_succ, List.getElem_cons_zero, List.setIfInBounds_toArray, List.set_cons_zero, List.set_cons_succ]
        refine S_take (i := 1) (v := .int .i64 (k : Int)) rfl rfl (by kernel_rfl) (by kernel_rfl) (by kernel_rfl) (fun _ _ _ h => h) (Or.inl ⟨by rfl, fun w hw => by kernel_rfl⟩) trivial ?_
        simp only [Act.put, List.getElem_toArray, List.getElem_cons_succ, List.getElem_cons_zero, List.setIfInBounds_toArray, List.set_cons_zero, List.set_cons_succ]
        refine S_take (i := 2) (v := .pointer (some ⟨g, 0, none⟩)) rfl rfl (by kernel_rfl) (by kernel_rfl) (by kernel_rfl) (fun _ _ _ h => h) (Or.inl ⟨by rfl, fun w hw => by kernel_rfl⟩) trivial ?_
        simp only [Act.put, List.getElem_toArray, List.getElem_cons_succ, List.getElem_cons_zero, List.setIfInBounds_toArray, List.set_cons_zero, List.set_cons_succ]
        refine S_take (i := 4) (v := .pointer (some ⟨gs, 0, none⟩)) rfl rfl (by kernel_rfl) (by kernel_rfl) (by kernel_rfl) (fun _ _ _ h => h) (Or.inl ⟨by rfl, fun w hw => by kernel_rfl⟩) trivial ?_
        simp only [Act.put, List.getElem_toArray, List.getElem_cons_succ, List.getElem_cons_zero, List.setIfInBounds_toArray, List.set_cons_zero, List.set_cons_succ]
        refine S_take (i := 5) (v := .pointer (some ⟨gs, 1, none⟩)) rfl rfl (by kernel_rfl) (by kernel_rfl) (by kernel_rfl) (fun _ _ _ h => h) (Or.inl ⟨by rfl, fun w hw => by go_simp⟩) trivial ?_
        simp only [Act.put, List.getElem_toArray, List.getElem_cons_succ, List.getElem_cons_zero, List.setIfInBounds_toArray, List.set_cons_zero, List.set_cons_succ]
        refine L_one (j := 3) (by kernel_rfl) rfl (by rfl) ?_
        simp only [Act.put, List.getElem_toArray, List.getElem_cons_succ, List.getElem_cons_zero, List.setIfInBounds_toArray, List.set_cons_zero, List.set_cons_succ]
        refine wp_called (by kernel_rfl) HFL.out ?_
        rintro e w4 ⟨rfl, F4, r4, o4, f4⟩
        have S4 : StAt w4 gs ms gp r c1 A1 (flS s1 k).2 fl [] := (HK.out.1.below (drawn_below (Below.refl _ _) 1)).rd o4 HK.out.2.1.readers
        refine ⟨_, rfl, trivial, ?_⟩
        simp only [Act.put, List.getElem_toArray, List.getElem_cons_succ, List.getElem_cons_zero, List.setIfInBounds_toArray, List.set_cons_zero, List.set_cons_succ]
        refine L_one (j := 6) (by kernel_rfl) rfl (by rfl) ?_
        simp only [Act.put, List.getElem_toArray, List.getElem_cons_succ, List.getElem_cons_zero, List.setIfInBounds_toArray, List.set_cons_zero, List.set_cons_succ]
        refine wp_ran (v := .pointer (some ⟨gs, 1 + k, none⟩)) (w' := w4) (by go_simp) ⟨trivial, ?_⟩
        simp only [Act.put, List.getElem_toArray, List.getElem_cons_succ, List.getElem_cons_zero, List.setIfInBounds_toArray, List.set_cons_zero, List.set_cons_succ]
        refine L_one (j := 7) (by kernel_rfl) rfl (by rfl) ?_
        simp only [Act.put, List.getElem_toArray, List.getElem_cons_succ, List.getElem_cons_zero, List.setIfInBounds_toArray, List.set_cons_zero, List.set_cons_succ]
        have hl8 := S4.len
        refine wp_set_blk2 4 (.tmp 28) (.tmp 25) (by rfl) gs (1 + k) 67 _ (.bool (flS s1 k).1.flag) (by rfl) (by rfl) S4.blk (by simp [stC]; omega) (by kernel_rfl) rfl ?_
        refine ⟨trivial, ?_⟩
        simp only [Act.put, List.getElem_toArray, List.getElem_cons_succ, List.getElem_cons_zero, List.setIfInBounds_toArray, List.set_cons_zero, List.set_cons_succ]
        refine L_done (by kernel_rfl) ?_
        refine NoPanic.normal ?_
        obtain ⟨w5, hw5⟩ : ∃ w5, w5 = w4.setCell ⟨gs, 1 + k, none⟩ (.bool (flS s1 k).1.flag) := ⟨_, rfl⟩
        have S5 : StAt w5 gs ms gp r c1 A1 (flS s1 (k + 1)).2 fl [] := by rw [hw5]; exact stset_any S4 hlt _
        have o5 : Only [gs] w4 w5 := by rw [hw5]; exact (Only.refl _ _).setCell (.inl (by simp)) _
        have hF4 : ∀ b ∈ F4, b ∈ F := fun b hb => HK.out.2.2.1 b (f4 b hb)
        have R5 : Rd w5 w.heap.size F4 (some ⟨g, 0, none⟩) (flS s1 (k + 1)).1 := r4.of o5.size (fun b hb => o5.block b (r4.under b hb) (fun hm => by
          simp at hm
          have h1 := H3.out.2.2.2.1 b (hF4 b hb)
          have h2 := HB.out.1
          omega))
        have o4' : Only (heads (some ⟨g, 0, none⟩)) wr w4 := (Only.of_below (drawn_below (Below.refl wr.heap.size wr) 1) _).trans o4 (Fresh.refl _ _)
        have B5 : Below w.heap.size w w5 := (HK.out.2.2.2.1.trans (o4'.below (fun b hb => H1.out.1.over b (H1.out.1.head b hb)) HK.out.2.2.2.1.size)).trans (o5.below (fun b hb => by simp at hb; have h1 := HB.out.1; have h2 := HB.out.2.2.2.2.1; omega) (by have h1 := HK.out.2.2.2.1.size; have h2 := o4'.size; omega))
        have hz5 : w3.heap.size ≤ w5.heap.size := by have h1 := HK.out.2.2.2.2; have h2 := o4'.size; have h3 := o5.size; omega
        rw [← hw5]
        have HFIN := Lib.hid (And.intro S5 (And.intro R5 (And.intro hF4 (And.intro B5 hz5))))
        clear S5 o5 R5 o4' B5 hz5 hw5 S4 hl8 r4 o4 f4 HFL hF4
        go_wp2_with fail
        go_roundw
        case rel => exact ⟨k + 1, F4, by omega, by go_num, HFIN.out⟩
        case measure => simp [intS]; omega
      -- F}
      · obtain rfl : k = 8 := by omega
        obtain ⟨s8, hs8⟩ : ∃ s8, s8 = (flS s1 8).1 := ⟨_, rfl⟩
        obtain ⟨bl, hbl⟩ : ∃ bl, bl = (flS s1 8).2 := ⟨_, rfl⟩
        have hl8 : s8.bs.length ≤ 1000000 := by rw [hs8]; exact Nat.le_trans (flS_le s1 8) hs1l
        rw [← hbl] at hSk
        rw [← hs8] at hRk
        have HX2 := Lib.hid (rnum_any wr w.heap.size Fk (some ⟨g, 0, none⟩) s8 hRk hBk.size)
        obtain ⟨N2, hN2⟩ : ∃ N2, N2 = s8.num := ⟨_, rfl⟩
        have hN2r := num_range s8
        rw [← hN2] at HX2 hN2r
        have hmn : (⟨bs, false⟩ : RD).num.toNat = m := by rw [← HNN.out]; exact Int.toNat_natCast m
        have HT : Hid (∀ R : Option (Mod × RD), tkN N2.toNat (s8.take 8) ⟨bl, fl, []⟩ = R → tkN (flS ((⟨bs, false⟩ : RD).take 8) 8).1.num.toNat ((flS ((⟨bs, false⟩ : RD).take 8) 8).1.take 8) ⟨(flS ((⟨bs, false⟩ : RD).take 8) 8).2, List.replicate (⟨bs, false⟩ : RD).num.toNat true, []⟩ = R) := Lib.hid (fun R h => by
          rw [← H3.out.2.2.2.2.2, ← hs8, ← hbl, ← hN2, hmn, ← H3.out.2.2.2.2.1]
          exact h)
        have H4 := Lib.hid (And.intro hSk (And.intro hRk (And.intro hFk (And.intro hBk hzk))))
        have ht8 := RD.take_le s8 8
        clear hSk hRk hFk hBk hzk hs8 hbl hN2 hmn
        go_wp2_with fail
        refine HX2.out.mono ?_
        rintro e w4 ⟨rfl, F4, r4, o4, f4⟩
        have S4 : StoreAt w4 (ms :: Z) gs ms gp r c1 A1 ⟨bl, fl, []⟩ [] := ⟨H4.out.1.rd o4 H4.out.2.1.readers, .nil⟩
        have hz4 := o4.size
        have B4 : Below w.heap.size w w4 := H4.out.2.2.2.1.trans (o4.below (fun b hb => H1.out.1.over b (H1.out.1.head b hb)) H4.out.2.2.2.1.size)
        have hF4 : ∀ b ∈ F4, b ∈ F := fun b hb => H4.out.2.2.1 b (f4 b hb)
        have H5 := Lib.hid (And.intro S4 (And.intro r4 (And.intro hF4 B4)))
        have hz34 : w3.heap.size ≤ w4.heap.size := Nat.le_trans H4.out.2.2.2.2 hz4
        clear S4 r4 o4 f4 B4 hF4 HX2 hz4
        go_wp2_with fail
        go_loopw [32] (fun iv wr => ∃ (k : Nat) (M : Mod) (sk : RD) (kvk : KV) (Fk : List Nat), iv = .int .i64 k ∧ (k = 0 ∨ (k : Int) ≤ N2) ∧ tkN N2.toNat (s8.take 8) ⟨bl, fl, []⟩ = tkN (N2.toNat - k) sk M ∧ StoreAt wr (ms :: Z) gs ms gp r c1 A1 M kvk ∧ Rd wr w.heap.size Fk (some ⟨g, 0, none⟩) sk ∧ (∀ b ∈ Fk, b ∈ F) ∧ Below w.heap.size w wr ∧ M.fl.length = fl.length ∧ M.ob.length + sk.bs.length ≤ 1000000 ∧ w3.heap.size ≤ wr.heap.size) (fun iv _ => N2.toNat - (intS iv).toNat)
        case atStart => exact ⟨0, _, _, _, F4, rfl, .inl rfl, rfl, H5.out.1, H5.out.2.1, H5.out.2.2.1, H5.out.2.2.2, rfl, by simp; omega, hz34⟩
        case round =>
          obtain ⟨k, M, sk, kvk, Fk, rfl, hk, htk, hSk, hRk, hFk, hBk, hfk, hcnt, hzk⟩ := hrel
          by_cases hlt : (k : Int) < N2
          -- {G
          · have hdk : decide ((k : Int) < N2) = true := decide_eq_true hlt
            have hwk : IntKind.i64.wrap ((k : Int) + 1) = (k : Int) + 1 := by rw [IntKind.wrap_i64]; omega
            obtain ⟨j, hj⟩ : ∃ j, N2.toNat - k = j + 1 := ⟨N2.toNat - k - 1, by omega⟩
            have hj2 : N2.toNat - (k + 1) = j := by omega
            rw [hj] at htk
            have hFf : ∀ b ∈ Fk, b ∉ ms :: foot gp r M.fl := fun b hb hm => by
              have h1 := H3.out.2.2.2.1 b (hFk b hb)
              have h2 := HB.out
              rcases List.mem_cons.1 hm with e | hm
              · omega
              · rcases foot_mem hm with e | ⟨_, e⟩ <;> omega
            have HTK := Lib.hid (taken_any hSk (by simp) (fun z hz => by
              rcases List.mem_cons.1 hz with e | hz
              · rw [e]; exact hSk.st.map.lt
              · have h1 := hZ0 z hz; have h2 := hBk.size; omega) hRk hBk.size (by omega) (by omega) hFf)
            have HK := Lib.hid (And.intro htk (And.intro hSk (And.intro hRk (And.intro hFk (And.intro hBk (And.intro hfk (And.intro hcnt (And.intro hzk hj2))))))))
            clear htk hSk hRk hFk hBk hfk hcnt hzk hj hj2 hFf
            go_wp2_with fail
            refine HTK.out.mono ?_
            rintro e w5 ⟨ho5, hcase⟩
            have B5 : Below w.heap.size w w5 := HK.out.2.2.2.2.1.trans (ho5.below (fun b hb => by
              have h2 := HB.out
              rcases List.mem_cons.1 hb with e | hb
              · rw [e]; exact H1.out.1.over g H1.out.2.2
              · rcases List.mem_cons.1 hb with e | hb
                · omega
                · rcases foot_mem hb with e | ⟨_, e⟩ <;> omega) HK.out.2.2.2.2.1.size)
            rcases hcase with ⟨hn5, rfl⟩ | ⟨M', s', kv', F', hsome, rfl, S5, R5, f5, hfl5, hob5, hbs5⟩
            · have hnone : tkM bs = none := tkM_none (tkP_noN (HT.out _ (HK.out.1.trans (tkN_none hn5))))
              have HFIN := Lib.hid (show TakeTo2 w Z bs (.returned (.tuple #[.pointer none, errV 2])) w5 from ⟨B5, .inl ⟨hnone, rfl⟩⟩)
              simp only [errV] at HFIN
              clear hnone hn5 B5 ho5 HTK
              go_wp2
              go_ret2
              exact HFIN.out
            · have htk5 : tkN N2.toNat (s8.take 8) ⟨bl, fl, []⟩ = tkN (N2.toNat - (k + 1)) s' M' := by rw [HK.out.1, HK.out.2.2.2.2.2.2.2.2]; exact tkN_some hsome
              have hz5 := ho5.size
              have HFIN := Lib.hid (And.intro htk5 (And.intro S5 (And.intro R5 (And.intro (show ∀ b ∈ F', b ∈ F from fun b hb => HK.out.2.2.2.1 b (f5 b hb)) (And.intro B5 (And.intro (hfl5.trans HK.out.2.2.2.2.2.1) (And.intro (show M'.ob.length + s'.bs.length ≤ 1000000 by have := HK.out.2.2.2.2.2.2.1; omega) (show w3.heap.size ≤ w5.heap.size by have := HK.out.2.2.2.2.2.2.2.1; omega))))))))
              clear htk5 S5 R5 f5 hfl5 hob5 hbs5 B5 ho5 hsome HTK hz5
              go_wp2_with fail
              go_roundw
              case rel => exact ⟨k + 1, M', s', kv', F', by go_num, .inr (by omega), HFIN.out⟩
              case measure => simp [intS]; omega
          -- G}
          -- {H
          · have hdk : decide ((k : Int) < N2) = false := decide_eq_false hlt
            have hj : N2.toNat - k = 0 := by omega
            rw [hj] at htk
            have htp : tkP bs = some M := tkP_some ⟨by rw [← HNN.out]; exact hok.1, by rw [← HNN.out]; exact hok.2⟩ (HT.out _ (htk.trans rfl))
            obtain ⟨n9, hI, hn9, hlen9⟩ := H0.out.2 M htp
            have HPUT := Lib.hid (stput_p hSk hI hn9 hlen9)
            have HK := Lib.hid (And.intro htp (And.intro hSk hBk))
            have HLN := Lib.hid (Nat.le_trans hlen9 (by decide : 3000000 ≤ 9000000))
            clear htk hSk hRk hFk hBk hfk hcnt hzk hj hI htp hlen9
            go_wp2_with fail
            refine HPUT.out.mono ?_
            rintro e w5 ⟨v, rfl, hv, b5, hsm⟩
            obtain ⟨Av, cv, rfl⟩ := own_form hv
            have B5 : Below w.heap.size w w5 := HK.out.2.2.trans (b5.mono HK.out.2.2.size)
            have hEQ := equal_any Av A (putM M).length bs.length cv c _ _ (putM M) bs w5 (hv.bytes hsm) (H0.out.1.since B5)
            have HEQ := Lib.hid hEQ
            have S5 := HK.out.2.1.below b5
            have H6 := Lib.hid (And.intro B5 S5)
            clear hEQ hv b5 hsm B5 S5 HPUT
            generalize (putM M).length = np at *
            go_wp2_with fail
            refine HEQ.out.mono ?_
            rintro e w6 ⟨rfl, rfl⟩
            by_cases hpe : putM M = bs
            · have hbe : (putM M == bs) = true := by rw [hpe]; exact beq_self_eq_true bs
              have hfl : M.fl ≠ [] → w.heap.size ≤ r := fun _ => by have := HB.out; omega
              have HFIN := Lib.hid (show TakeTo2 w Z bs (.returned (.tuple #[.pointer (some ⟨gs, 0, none⟩), .nilIface])) w5 from ⟨H6.out.1, .inr ⟨M, gs, ms, gp, r, c1, A1, kvk, tkM_some HK.out.1 hpe, rfl, H6.out.2, by have := HB.out; omega, by have := HB.out; omega, by have := HB.out; omega, hfl⟩⟩)
              generalize (putM M == bs) = q at *
              subst hbe
              clear hfl HEQ hpe
              go_wp2
              go_ret2
              exact HFIN.out
            · have hbe : (putM M == bs) = false := by simpa using hpe
              have HFIN := Lib.hid (show TakeTo2 w Z bs (.returned (.tuple #[.pointer none, errV 2])) w5 from ⟨H6.out.1, .inl ⟨tkM_no HK.out.1 hpe, rfl⟩⟩)
              simp only [errV] at HFIN
              generalize (putM M == bs) = q at *
              subst hbe
              clear HEQ hpe
              go_wp2
              go_ret2
              exact HFIN.out
          -- H}
  -- K}
  -- {J
  · have HW := Lib.hid (stnew_bad N (by omega) w2)
    simp only [errV] at HW
    have hnone : tkM bs = none := tkM_none (tkP_none (by rw [← HNN.out]; exact hok))
    have HFIN := Lib.hid (show TakeTo2 w Z bs (.returned (.tuple #[.pointer none, errV 2])) w2 from ⟨b2, .inl ⟨hnone, rfl⟩⟩)
    simp only [errV] at HFIN
    clear r2 o2 f2 b2 HX hnone
    go_wp2_with fail
    refine HW.out.mono ?_
    rintro e w3 ⟨rfl, rfl⟩
    go_wp2
    go_ret2
    exact HFIN.out
  -- J}
end Go.Proofs.YtfbpfgbmlbkffaaGreat
