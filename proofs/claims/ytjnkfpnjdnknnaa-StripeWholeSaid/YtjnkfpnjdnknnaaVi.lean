/-
  Pieces of the document: byte by byte. Conditions: the range is a good one.
-/
import Derived.Test.YtjnkfpnjdnknnaaVh
namespace Go.Proofs.Ytjnkfpnjdnknnaa
open Go.RowKit Go.BigFrame
set_option linter.unusedSimpArgs false
set_option linter.unusedVariables false
set_option maxRecDepth 100000
theorem pcsL_len {O s : Nat} : ∀ n, (pcsL O s n).length ≤ n
  | 0 => by simp [pcsL]
  | n + 1 => by
    have ih := pcsL_len (O := O) (s := s) n
    show (addB O s n (pcsL O s n)).length ≤ n + 1
    unfold addB
    split
    · simp; omega
    · split
      · simp; omega
      · simp; omega
theorem OwnP.at0 {t : TypeId} {w : World} {base c m : Nat} {A : Option Addr} {l : List Pc} (h : OwnP t w base (.slice A m c) l) {k : Nat} {p : Pc} (hk : l[k]? = some p) : ∃ g : Nat, A = some ⟨g, 0, none⟩ ∧ m = l.length ∧ g < w.heap.size ∧ base ≤ g ∧ ∀ j v, p.cs[j]? = some v → w.cell? ⟨g, k * 4 + j, none⟩ = some v := by
  obtain ⟨ad, rfl, hm, hlt, hb, hc⟩ := h.at_ hk
  obtain ⟨A', cap', e, ha⟩ := h.form
  injection e with e1
  have h3 := (ha ad e1.symm).2.2
  obtain ⟨g, hg⟩ : ∃ g, g = ad.block := ⟨_, rfl⟩
  rw [← hg] at h3 hlt hb
  subst h3
  refine ⟨g, rfl, hm, hlt, hb, fun j v hj => ?_⟩
  have := hc j v hj
  rw [add_of_add, add_zero_off] at this
  exact this
theorem pcsL_ln {O s : Nat} : ∀ n, ∀ q ∈ pcsL O s n, q.ln ≤ n
  | 0 => by simp [pcsL]
  | n + 1 => by
    have ih := pcsL_ln (O := O) (s := s) n
    show ∀ q ∈ addB O s n (pcsL O s n), q.ln ≤ n + 1
    intro q hq
    rcases List.eq_nil_or_concat (pcsL O s n) with h | ⟨m, p, h⟩ <;> try simp only [List.concat_eq_append] at h
    · rw [h, addB_nil] at hq
      simp at hq
      subst hq
      simp [Pc.new]
    · rw [h] at ih hq
      have hp := ih p (by simp)
      by_cases e : p.ix = (s + n) / O
      · rw [addB_more e] at hq
        rcases List.mem_append.1 hq with hq | hq
        · have := ih q (by simp [hq]); omega
        · simp at hq
          subst hq
          show p.ln + 1 ≤ n + 1
          omega
      · rw [addB_other e] at hq
        rcases List.mem_append.1 hq with hq | hq
        · have := ih q hq; omega
        · simp at hq
          subst hq
          simp [Pc.new]
set_option maxHeartbeats 8000000 in
theorem dpieces_any (O s n : Nat) (ho1 : 16 ≤ O) (ho2 : O ≤ 256) (hr : s + n ≤ 4096) (w : World) : Calls Try.prog 12 #[.int .i64 (O : Int), .int .i64 (s : Int), .int .i64 (n : Int)] w fun e w' => ∃ v, e = .returned v ∧ OwnP 38 w' w.heap.size v (pcsL O s n) ∧ Below w.heap.size w w' := by
  go_enter Try.func12, Try.ntmps12
  go_wp2
  go_loopw [7, 8] (fun lv i wr => ∃ k : Nat, k ≤ n ∧ i = .int .i64 k ∧ OwnP 38 wr w.heap.size lv (pcsL O s k) ∧ Below w.heap.size w wr) (fun _ i _ => n - (intS i).toNat)
  case atStart => exact ⟨0, by omega, rfl, OwnP.nil _ _ _, Below.refl _ _⟩
  case round =>
    obtain ⟨k, hk, rfl, ho, hb⟩ := hrel
    obtain ⟨A1, cap, rfl, -⟩ := ho.form
    have HO := Lib.hid ho
    have HB := Lib.hid hb
    have HLL : Hid ((pcsL O s k).length ≤ 10000000) := Lib.hid (by have := pcsL_len (O := O) (s := s) k; omega)
    clear ho hb
    by_cases hlt : k < n
    · have dl : decide ((k : Int) < (n : Int)) = true := decide_eq_true (by omega)
      have hw1 : IntKind.i64.wrap ((s : Int) + (k : Int)) = (s : Int) + (k : Int) := wrap_in (by unfold I64; omega)
      have hwk : IntKind.i64.wrap ((k : Int) + 1) = (k : Int) + 1 := wrap_in (by unfold I64; omega)
      obtain ⟨ix, hix⟩ : ∃ ix, ix = (s + k) / O := ⟨_, rfl⟩
      obtain ⟨av, hav⟩ : ∃ av, av = (s + k) % O := ⟨_, rfl⟩
      have hq : ((s : Int) + (k : Int)).tdiv (O : Int) = (ix : Int) := by rw [Int.tdiv_eq_ediv_of_nonneg (by omega)]; rw [hix, Int.natCast_ediv]; rfl
      have hm : ((s : Int) + (k : Int)).tmod (O : Int) = (av : Int) := by rw [Int.tmod_eq_emod_of_nonneg (by omega)]; rw [hav, Int.natCast_emod]; rfl
      have hml : av < O := by rw [hav]; exact Nat.mod_lt _ (by omega)
      have hdl : ix ≤ s + k := by rw [hix]; exact Nat.div_le_self _ _
      have hw2 : IntKind.i64.wrap (ix : Int) = (ix : Int) := wrap_in (by unfold I64; omega)
      have hw3 : IntKind.i64.wrap (av : Int) = (av : Int) := wrap_in (by unfold I64; omega)
      have hne2 : ((O : Int) == 0) = false := by simp; omega
      have hne3 : ¬ O = 0 := by omega
      have HX := Lib.hid (And.intro hix hav)
      clear hix hav
      obtain ⟨l, hl⟩ : ∃ l, l = pcsL O s k := ⟨_, rfl⟩
      have HLN : Hid (∀ q ∈ l, q.ln ≤ k) := Lib.hid (by rw [hl]; exact pcsL_ln k)
      have HADD : Hid (addB O s k l = pcsL O s (k + 1)) := Lib.hid (by rw [hl]; rfl)
      rw [← hl] at HO HLL ⊢
      clear hl
      rcases List.eq_nil_or_concat l with hl0 | ⟨m, q, hlq⟩ <;> try simp only [List.concat_eq_append] at hlq
      · have hwl : IntKind.i64.wrap ((l.length : Int) - 1) = -1 := by rw [hl0]; decide
        have HL0 := Lib.hid hl0
        clear hl0
        go_upto_region 6 with (fail)
        go_quiet (fail)
        go_upto_region 8 with (fail)
        refine any_beginL (fun _ => True) 99 (by kernel_rfl) ?_
        generalize hW0 : World.drew _ = W0
        refine S_take (i := 0) (v := .slice A1 l.length cap) rfl rfl (by kernel_rfl) (by kernel_rfl) (by kernel_rfl) (fun _ _ _ h => h) (Or.inl ⟨by rfl, fun W hw => by go_simp⟩) trivial ?_
        simp only [Act.put, List.getElem_toArray, List.getElem_cons_succ, List.getElem_cons_zero, List.setIfInBounds_toArray, List.set_cons_zero, List.set_cons_succ]
        refine S_take (i := 1) (v := .int .i64 (s : Int)) rfl rfl (by kernel_rfl) (by kernel_rfl) (by kernel_rfl) (fun _ _ _ h => h) (Or.inl ⟨by rfl, fun W hw => by go_simp⟩) trivial ?_
        simp only [Act.put, List.getElem_toArray, List.getElem_cons_succ, List.getElem_cons_zero, List.setIfInBounds_toArray, List.set_cons_zero, List.set_cons_succ]
        refine S_take (i := 2) (v := .int .i64 (k : Int)) rfl rfl (by kernel_rfl) (by kernel_rfl) (by kernel_rfl) (fun _ _ _ h => h) (Or.inl ⟨by rfl, fun W hw => by go_simp⟩) trivial ?_
        simp only [Act.put, List.getElem_toArray, List.getElem_cons_succ, List.getElem_cons_zero, List.setIfInBounds_toArray, List.set_cons_zero, List.set_cons_succ]
        refine S_take (i := 3) (v := .int .i64 ((s : Int) + (k : Int))) rfl rfl (by kernel_rfl) (by kernel_rfl) (by kernel_rfl) (fun _ _ _ h => h) (Or.inl ⟨by rfl, fun W hw => by go_simp⟩) trivial ?_
        simp only [Act.put, List.getElem_toArray, List.getElem_cons_succ, List.getElem_cons_zero, List.setIfInBounds_toArray, List.set_cons_zero, List.set_cons_succ]
        refine S_take (i := 4) (v := .int .i64 (O : Int)) rfl rfl (by kernel_rfl) (by kernel_rfl) (by kernel_rfl) (fun _ _ _ h => h) (Or.inl ⟨by rfl, fun W hw => by go_simp⟩) trivial ?_
        simp only [Act.put, List.getElem_toArray, List.getElem_cons_succ, List.getElem_cons_zero, List.setIfInBounds_toArray, List.set_cons_zero, List.set_cons_succ]
        refine S_take (i := 5) (v := .int .i64 (ix : Int)) rfl rfl (by kernel_rfl) (by kernel_rfl) (by kernel_rfl) (fun _ _ _ h => h) (Or.inl ⟨by rfl, fun W hw => by go_simp <;> omega⟩) trivial ?_
        simp only [Act.put, List.getElem_toArray, List.getElem_cons_succ, List.getElem_cons_zero, List.setIfInBounds_toArray, List.set_cons_zero, List.set_cons_succ]
        refine S_take (i := 6) (v := .int .i64 (s : Int)) rfl rfl (by kernel_rfl) (by kernel_rfl) (by kernel_rfl) (fun _ _ _ h => h) (Or.inl ⟨by rfl, fun W hw => by go_simp⟩) trivial ?_
        simp only [Act.put, List.getElem_toArray, List.getElem_cons_succ, List.getElem_cons_zero, List.setIfInBounds_toArray, List.set_cons_zero, List.set_cons_succ]
        refine S_take (i := 7) (v := .int .i64 (k : Int)) rfl rfl (by kernel_rfl) (by kernel_rfl) (by kernel_rfl) (fun _ _ _ h => h) (Or.inl ⟨by rfl, fun W hw => by go_simp⟩) trivial ?_
        simp only [Act.put, List.getElem_toArray, List.getElem_cons_succ, List.getElem_cons_zero, List.setIfInBounds_toArray, List.set_cons_zero, List.set_cons_succ]
        refine S_take (i := 8) (v := .int .i64 ((s : Int) + (k : Int))) rfl rfl (by kernel_rfl) (by kernel_rfl) (by kernel_rfl) (fun _ _ _ h => h) (Or.inl ⟨by rfl, fun W hw => by go_simp⟩) trivial ?_
        simp only [Act.put, List.getElem_toArray, List.getElem_cons_succ, List.getElem_cons_zero, List.setIfInBounds_toArray, List.set_cons_zero, List.set_cons_succ]
        refine S_take (i := 9) (v := .int .i64 (O : Int)) rfl rfl (by kernel_rfl) (by kernel_rfl) (by kernel_rfl) (fun _ _ _ h => h) (Or.inl ⟨by rfl, fun W hw => by go_simp⟩) trivial ?_
        simp only [Act.put, List.getElem_toArray, List.getElem_cons_succ, List.getElem_cons_zero, List.setIfInBounds_toArray, List.set_cons_zero, List.set_cons_succ]
        refine S_take (i := 10) (v := .int .i64 (av : Int)) rfl rfl (by kernel_rfl) (by kernel_rfl) (by kernel_rfl) (fun _ _ _ h => h) (Or.inl ⟨by rfl, fun W hw => by go_simp <;> omega⟩) trivial ?_
        simp only [Act.put, List.getElem_toArray, List.getElem_cons_succ, List.getElem_cons_zero, List.setIfInBounds_toArray, List.set_cons_zero, List.set_cons_succ]
        refine S_take (i := 11) (v := .int .i64 (k : Int)) rfl rfl (by kernel_rfl) (by kernel_rfl) (by kernel_rfl) (fun _ _ _ h => h) (Or.inl ⟨by rfl, fun W hw => by go_simp⟩) trivial ?_
        simp only [Act.put, List.getElem_toArray, List.getElem_cons_succ, List.getElem_cons_zero, List.setIfInBounds_toArray, List.set_cons_zero, List.set_cons_succ]
        refine S_take (i := 12) (v := .agg #[.int .i64 (ix : Int), .int .i64 (av : Int), .int .i64 1, .int .i64 (k : Int)]) rfl rfl (by kernel_rfl) (by kernel_rfl) (by kernel_rfl) (fun _ _ _ h => h) (Or.inl ⟨by rfl, fun W hw => by go_simp⟩) trivial ?_
        simp only [Act.put, List.getElem_toArray, List.getElem_cons_succ, List.getElem_cons_zero, List.setIfInBounds_toArray, List.set_cons_zero, List.set_cons_succ]
        refine L_one (j := 13) (by kernel_rfl) rfl (by rfl) ?_
        simp only [Act.put, List.getElem_toArray, List.getElem_cons_succ, List.getElem_cons_zero, List.setIfInBounds_toArray, List.set_cons_zero, List.set_cons_succ]
        obtain ⟨W4, hW4⟩ : ∃ W', W' = World.alloc W0 (.cells (Pc.mk ix av 1 k).cs.toArray 38) := ⟨_, rfl⟩
        have hb0 : Below wr.heap.size wr W0 := by rw [← hW0]; exact ((below_drewN (Below.refl _ wr) _).drew)
        have hb4 : Below wr.heap.size wr W4 := by rw [hW4]; exact hb0.alloc hb0.size _
        have hn4 : Reads W4 (W0.heap.size + 1) 4 (some ⟨W0.heap.size, 0, none⟩) 1 (Pc.mk ix av 1 k).cs := by rw [hW4]; exact pc_new _ _ _
        refine wp_ran (v := .slice (some ⟨W0.heap.size, 0, none⟩) 1 1) (w' := W4) (by rw [hW4]; go_simp; rfl) ⟨trivial, ?_⟩
        simp only [Act.put, List.getElem_toArray, List.getElem_cons_succ, List.getElem_cons_zero, List.setIfInBounds_toArray, List.set_cons_zero, List.set_cons_succ]
        refine L_one (j := 14) (by kernel_rfl) rfl (by rfl) ?_
        simp only [Act.put, List.getElem_toArray, List.getElem_cons_succ, List.getElem_cons_zero, List.setIfInBounds_toArray, List.set_cons_zero, List.set_cons_succ]
        refine wp_app_pc (.tmp 41) (.tmp 54) 34 38 Try.underlying34 (.inr rfl) rfl w.heap.size (.slice A1 l.length cap) l rfl (HO.out.since hb4) _ _ 1 (Pc.mk ix av 1 k) rfl hn4 HLL.out (Nat.le_trans HB.out.size hb4.size) ?_
        intro v5 W5 h5 g5
        refine ⟨trivial, ?_⟩
        simp only [Act.put, List.getElem_toArray, List.getElem_cons_succ, List.getElem_cons_zero, List.setIfInBounds_toArray, List.set_cons_zero, List.set_cons_succ]
        refine L_one (j := 15) (by kernel_rfl) rfl (by rfl) ?_
        simp only [Act.put, List.getElem_toArray, List.getElem_cons_succ, List.getElem_cons_zero, List.setIfInBounds_toArray, List.set_cons_zero, List.set_cons_succ]
        refine wp_ran (v := v5) (w' := W5) (by go_simp) ⟨trivial, ?_⟩
        simp only [Act.put, List.getElem_toArray, List.getElem_cons_succ, List.getElem_cons_zero, List.setIfInBounds_toArray, List.set_cons_zero, List.set_cons_succ]
        refine L_done (by kernel_rfl) ?_
        refine NoPanic.normal ?_
        have hbn : Below w.heap.size w W5 := (HB.out.trans (hb4.mono HB.out.size)).grown g5 (Nat.le_trans HB.out.size hb4.size) (fun j hj => (World.ownsRow.lt HO.out _ hj).1)
        go_wp2
        have hpn : Pc.new O s k = Pc.mk ix av 1 k := by obtain ⟨a, b⟩ := HX.out; rw [a, b]; rfl
        have e : addB O s k l = l ++ [Pc.mk ix av 1 k] := by rw [HL0.out, addB_nil, hpn]; rfl
        exact ⟨⟨k + 1, by omega, by go_num, by rw [← HADD.out, e]; exact h5, hbn⟩, by simp only [intS]; omega⟩
      · obtain ⟨j, hj⟩ : ∃ j, j = m.length := ⟨_, rfl⟩
        have hlj : l.length = j + 1 := by rw [hlq, hj]; simp
        have hwl : IntKind.i64.wrap ((l.length : Int) - 1) = (j : Int) := by rw [wrap_in (by have := HLL.out; unfold I64; omega)]; omega
        have hjl : j < l.length := by omega
        have hlt2 : l[j]? = some q := by rw [hlq, hj]; simp
        obtain ⟨g, rfl, -, hab, hbg, hc⟩ := HO.out.at0 hlt2
        have c0 : wr.cell? ⟨g, j * 4, none⟩ = some (.int .i64 (q.ix : Int)) := hc 0 _ rfl
        have c2 : wr.cell? ⟨g, j * 4 + 2, none⟩ = some (.int .i64 (q.ln : Int)) := hc 2 _ rfl
        have hwln : IntKind.i64.wrap ((q.ln : Int) + 1) = (q.ln : Int) + 1 := wrap_in (by have := HLN.out q (by rw [hlq]; simp); unfold I64; omega)
        have hfz : wr.frozen? ⟨g, j * 4 + 2, none⟩ = false := by have := HO.out.frozen (j * 4 + 2); rwa [add_zero_off] at this
        have HJ := Lib.hid (And.intro hj hlq)
        clear hj hlq hlt2 hc hlj
        by_cases he : q.ix = ix
        · have hde : ((q.ix : Int) == (ix : Int)) = true := by rw [he]; simp
          go_upto_region 6 with (fail)
          have hS : wr.drew.cell? ⟨g, j * 4, none⟩ = some (.int .i64 (q.ix : Int)) := c0
          refine any_beginL (fun W => W.cell? ⟨g, j * 4, none⟩ = some (.int .i64 (q.ix : Int))) 99 (by kernel_rfl) ?_
          refine S_take (i := 0) (v := .int .i64 (j : Int)) rfl rfl (by kernel_rfl) (by kernel_rfl) (by kernel_rfl) (fun _ _ _ h => h) (Or.inl ⟨by rfl, fun W hw => by go_simp⟩) hS ?_
          simp only [Act.put, List.getElem_toArray, List.getElem_cons_succ, List.getElem_cons_zero, List.setIfInBounds_toArray, List.set_cons_zero, List.set_cons_succ]
          refine S_take (i := 1) (v := .bool true) rfl rfl (by kernel_rfl) (by kernel_rfl) (by kernel_rfl) (fun _ _ _ h => h) (Or.inl ⟨by rfl, fun W hw => by go_simp⟩) hS ?_
          simp only [Act.put, List.getElem_toArray, List.getElem_cons_succ, List.getElem_cons_zero, List.setIfInBounds_toArray, List.set_cons_zero, List.set_cons_succ]
          refine S_take (i := 2) (v := .bool true) rfl rfl (by kernel_rfl) (by kernel_rfl) (by kernel_rfl) (fun _ _ _ h => h) (Or.inl ⟨by rfl, fun W hw => by go_simp⟩) hS ?_
          simp only [Act.put, List.getElem_toArray, List.getElem_cons_succ, List.getElem_cons_zero, List.setIfInBounds_toArray, List.set_cons_zero, List.set_cons_succ]
          refine S_take (i := 3) (v := .slice (some ⟨g, 0, none⟩) l.length cap) rfl rfl (by kernel_rfl) (by kernel_rfl) (by kernel_rfl) (fun _ _ _ h => h) (Or.inl ⟨by rfl, fun W hw => by go_simp⟩) hS ?_
          simp only [Act.put, List.getElem_toArray, List.getElem_cons_succ, List.getElem_cons_zero, List.setIfInBounds_toArray, List.set_cons_zero, List.set_cons_succ]
          refine S_take (i := 4) (v := .int .i64 (j : Int)) rfl rfl (by kernel_rfl) (by kernel_rfl) (by kernel_rfl) (fun _ _ _ h => h) (Or.inl ⟨by rfl, fun W hw => by go_simp⟩) hS ?_
          simp only [Act.put, List.getElem_toArray, List.getElem_cons_succ, List.getElem_cons_zero, List.setIfInBounds_toArray, List.set_cons_zero, List.set_cons_succ]
          refine S_take (i := 5) (v := .pointer (some ⟨g, j * 4, none⟩)) rfl rfl (by kernel_rfl) (by kernel_rfl) (by kernel_rfl) (fun _ _ _ h => h) (Or.inl ⟨by rfl, fun W hw => by go_simp⟩) hS ?_
          simp only [Act.put, List.getElem_toArray, List.getElem_cons_succ, List.getElem_cons_zero, List.setIfInBounds_toArray, List.set_cons_zero, List.set_cons_succ]
          refine S_take (i := 6) (v := .pointer (some ⟨g, j * 4, none⟩)) rfl rfl (by kernel_rfl) (by kernel_rfl) (by kernel_rfl) (fun _ _ _ h => h) (Or.inl ⟨by rfl, fun W hw => by go_simp⟩) hS ?_
          simp only [Act.put, List.getElem_toArray, List.getElem_cons_succ, List.getElem_cons_zero, List.setIfInBounds_toArray, List.set_cons_zero, List.set_cons_succ]
          refine S_take (i := 7) (v := .int .i64 (q.ix : Int)) rfl rfl (by kernel_rfl) (by kernel_rfl) (by kernel_rfl) (fun _ _ _ h => h) (Or.inl ⟨by rfl, fun W hw => by have c : W.cell? ⟨g, j * 4, none⟩ = some (.int .i64 (q.ix : Int)) := hw; go_simp⟩) hS ?_
          simp only [Act.put, List.getElem_toArray, List.getElem_cons_succ, List.getElem_cons_zero, List.setIfInBounds_toArray, List.set_cons_zero, List.set_cons_succ]
          refine S_take (i := 8) (v := .int .i64 (s : Int)) rfl rfl (by kernel_rfl) (by kernel_rfl) (by kernel_rfl) (fun _ _ _ h => h) (Or.inl ⟨by rfl, fun W hw => by go_simp⟩) hS ?_
          simp only [Act.put, List.getElem_toArray, List.getElem_cons_succ, List.getElem_cons_zero, List.setIfInBounds_toArray, List.set_cons_zero, List.set_cons_succ]
          refine S_take (i := 9) (v := .int .i64 (k : Int)) rfl rfl (by kernel_rfl) (by kernel_rfl) (by kernel_rfl) (fun _ _ _ h => h) (Or.inl ⟨by rfl, fun W hw => by go_simp⟩) hS ?_
          simp only [Act.put, List.getElem_toArray, List.getElem_cons_succ, List.getElem_cons_zero, List.setIfInBounds_toArray, List.set_cons_zero, List.set_cons_succ]
          refine S_take (i := 10) (v := .int .i64 ((s : Int) + (k : Int))) rfl rfl (by kernel_rfl) (by kernel_rfl) (by kernel_rfl) (fun _ _ _ h => h) (Or.inl ⟨by rfl, fun W hw => by go_simp⟩) hS ?_
          simp only [Act.put, List.getElem_toArray, List.getElem_cons_succ, List.getElem_cons_zero, List.setIfInBounds_toArray, List.set_cons_zero, List.set_cons_succ]
          refine S_take (i := 11) (v := .int .i64 (O : Int)) rfl rfl (by kernel_rfl) (by kernel_rfl) (by kernel_rfl) (fun _ _ _ h => h) (Or.inl ⟨by rfl, fun W hw => by go_simp⟩) hS ?_
          simp only [Act.put, List.getElem_toArray, List.getElem_cons_succ, List.getElem_cons_zero, List.setIfInBounds_toArray, List.set_cons_zero, List.set_cons_succ]
          refine S_take (i := 12) (v := .int .i64 (ix : Int)) rfl rfl (by kernel_rfl) (by kernel_rfl) (by kernel_rfl) (fun _ _ _ h => h) (Or.inl ⟨by rfl, fun W hw => by go_simp <;> omega⟩) hS ?_
          simp only [Act.put, List.getElem_toArray, List.getElem_cons_succ, List.getElem_cons_zero, List.setIfInBounds_toArray, List.set_cons_zero, List.set_cons_succ]
          refine S_take (i := 13) (v := .bool true) rfl rfl (by kernel_rfl) (by kernel_rfl) (by kernel_rfl) (fun _ _ _ h => h) (Or.inl ⟨by rfl, fun W hw => by go_simp⟩) hS ?_
          simp only [Act.put, List.getElem_toArray, List.getElem_cons_succ, List.getElem_cons_zero, List.setIfInBounds_toArray, List.set_cons_zero, List.set_cons_succ]
          refine S_take (i := 14) (v := .bool true) rfl rfl (by kernel_rfl) (by kernel_rfl) (by kernel_rfl) (fun _ _ _ h => h) (Or.inl ⟨by rfl, fun W hw => by go_simp⟩) hS ?_
          simp only [Act.put, List.getElem_toArray, List.getElem_cons_succ, List.getElem_cons_zero, List.setIfInBounds_toArray, List.set_cons_zero, List.set_cons_succ]
          refine L_done (by kernel_rfl) ?_
          refine NoPanic.normal ?_
          have d2 : wr.drew.cell? ⟨g, j * 4 + 2, none⟩ = some (.int .i64 (q.ln : Int)) := c2
          have hfz2 : wr.drew.frozen? ⟨g, j * 4 + 2, none⟩ = false := hfz
          have HO2 : Hid (OwnP 38 wr.drew w.heap.size (.slice (some ⟨g, 0, none⟩) l.length cap) l) := Lib.hid HO.out
          have HB2 : Hid (Below w.heap.size w wr.drew) := Lib.hid HB.out.drew
          clear c0 c2 hfz hS HO HB
          generalize World.drew wr = W1 at *
          go_wp2
          have e : addB O s k l = m ++ [{ q with ln := q.ln + 1 }] := by rw [HJ.out.2, addB_more (he.trans HX.out.1)]
          have hmr := HO2.out
          rw [HJ.out.2] at hmr
          have hm2 := hmr.more
          rw [add_of_add, add_zero_off, ← HJ.out.1, ← HJ.out.2] at hm2
          exact ⟨⟨k + 1, by omega, by go_num, by rw [← HADD.out, e]; exact hm2, HB2.out.setCell hbg _⟩, by simp only [intS]; omega⟩
        · have hde : ((q.ix : Int) == (ix : Int)) = false := beq_eq_false_iff_ne.2 (by omega)
          go_upto_region 6 with (fail)
          have hS : wr.drew.cell? ⟨g, j * 4, none⟩ = some (.int .i64 (q.ix : Int)) := c0
          refine any_beginL (fun W => W.cell? ⟨g, j * 4, none⟩ = some (.int .i64 (q.ix : Int))) 99 (by kernel_rfl) ?_
          refine S_take (i := 0) (v := .int .i64 (j : Int)) rfl rfl (by kernel_rfl) (by kernel_rfl) (by kernel_rfl) (fun _ _ _ h => h) (Or.inl ⟨by rfl, fun W hw => by go_simp⟩) hS ?_
          simp only [Act.put, List.getElem_toArray, List.getElem_cons_succ, List.getElem_cons_zero, List.setIfInBounds_toArray, List.set_cons_zero, List.set_cons_succ]
          refine S_take (i := 1) (v := .bool true) rfl rfl (by kernel_rfl) (by kernel_rfl) (by kernel_rfl) (fun _ _ _ h => h) (Or.inl ⟨by rfl, fun W hw => by go_simp⟩) hS ?_
          simp only [Act.put, List.getElem_toArray, List.getElem_cons_succ, List.getElem_cons_zero, List.setIfInBounds_toArray, List.set_cons_zero, List.set_cons_succ]
          refine S_take (i := 2) (v := .bool true) rfl rfl (by kernel_rfl) (by kernel_rfl) (by kernel_rfl) (fun _ _ _ h => h) (Or.inl ⟨by rfl, fun W hw => by go_simp⟩) hS ?_
          simp only [Act.put, List.getElem_toArray, List.getElem_cons_succ, List.getElem_cons_zero, List.setIfInBounds_toArray, List.set_cons_zero, List.set_cons_succ]
          refine S_take (i := 3) (v := .slice (some ⟨g, 0, none⟩) l.length cap) rfl rfl (by kernel_rfl) (by kernel_rfl) (by kernel_rfl) (fun _ _ _ h => h) (Or.inl ⟨by rfl, fun W hw => by go_simp⟩) hS ?_
          simp only [Act.put, List.getElem_toArray, List.getElem_cons_succ, List.getElem_cons_zero, List.setIfInBounds_toArray, List.set_cons_zero, List.set_cons_succ]
          refine S_take (i := 4) (v := .int .i64 (j : Int)) rfl rfl (by kernel_rfl) (by kernel_rfl) (by kernel_rfl) (fun _ _ _ h => h) (Or.inl ⟨by rfl, fun W hw => by go_simp⟩) hS ?_
          simp only [Act.put, List.getElem_toArray, List.getElem_cons_succ, List.getElem_cons_zero, List.setIfInBounds_toArray, List.set_cons_zero, List.set_cons_succ]
          refine S_take (i := 5) (v := .pointer (some ⟨g, j * 4, none⟩)) rfl rfl (by kernel_rfl) (by kernel_rfl) (by kernel_rfl) (fun _ _ _ h => h) (Or.inl ⟨by rfl, fun W hw => by go_simp⟩) hS ?_
          simp only [Act.put, List.getElem_toArray, List.getElem_cons_succ, List.getElem_cons_zero, List.setIfInBounds_toArray, List.set_cons_zero, List.set_cons_succ]
          refine S_take (i := 6) (v := .pointer (some ⟨g, j * 4, none⟩)) rfl rfl (by kernel_rfl) (by kernel_rfl) (by kernel_rfl) (fun _ _ _ h => h) (Or.inl ⟨by rfl, fun W hw => by go_simp⟩) hS ?_
          simp only [Act.put, List.getElem_toArray, List.getElem_cons_succ, List.getElem_cons_zero, List.setIfInBounds_toArray, List.set_cons_zero, List.set_cons_succ]
          refine S_take (i := 7) (v := .int .i64 (q.ix : Int)) rfl rfl (by kernel_rfl) (by kernel_rfl) (by kernel_rfl) (fun _ _ _ h => h) (Or.inl ⟨by rfl, fun W hw => by have c : W.cell? ⟨g, j * 4, none⟩ = some (.int .i64 (q.ix : Int)) := hw; go_simp⟩) hS ?_
          simp only [Act.put, List.getElem_toArray, List.getElem_cons_succ, List.getElem_cons_zero, List.setIfInBounds_toArray, List.set_cons_zero, List.set_cons_succ]
          refine S_take (i := 8) (v := .int .i64 (s : Int)) rfl rfl (by kernel_rfl) (by kernel_rfl) (by kernel_rfl) (fun _ _ _ h => h) (Or.inl ⟨by rfl, fun W hw => by go_simp⟩) hS ?_
          simp only [Act.put, List.getElem_toArray, List.getElem_cons_succ, List.getElem_cons_zero, List.setIfInBounds_toArray, List.set_cons_zero, List.set_cons_succ]
          refine S_take (i := 9) (v := .int .i64 (k : Int)) rfl rfl (by kernel_rfl) (by kernel_rfl) (by kernel_rfl) (fun _ _ _ h => h) (Or.inl ⟨by rfl, fun W hw => by go_simp⟩) hS ?_
          simp only [Act.put, List.getElem_toArray, List.getElem_cons_succ, List.getElem_cons_zero, List.setIfInBounds_toArray, List.set_cons_zero, List.set_cons_succ]
          refine S_take (i := 10) (v := .int .i64 ((s : Int) + (k : Int))) rfl rfl (by kernel_rfl) (by kernel_rfl) (by kernel_rfl) (fun _ _ _ h => h) (Or.inl ⟨by rfl, fun W hw => by go_simp⟩) hS ?_
          simp only [Act.put, List.getElem_toArray, List.getElem_cons_succ, List.getElem_cons_zero, List.setIfInBounds_toArray, List.set_cons_zero, List.set_cons_succ]
          refine S_take (i := 11) (v := .int .i64 (O : Int)) rfl rfl (by kernel_rfl) (by kernel_rfl) (by kernel_rfl) (fun _ _ _ h => h) (Or.inl ⟨by rfl, fun W hw => by go_simp⟩) hS ?_
          simp only [Act.put, List.getElem_toArray, List.getElem_cons_succ, List.getElem_cons_zero, List.setIfInBounds_toArray, List.set_cons_zero, List.set_cons_succ]
          refine S_take (i := 12) (v := .int .i64 (ix : Int)) rfl rfl (by kernel_rfl) (by kernel_rfl) (by kernel_rfl) (fun _ _ _ h => h) (Or.inl ⟨by rfl, fun W hw => by go_simp <;> omega⟩) hS ?_
          simp only [Act.put, List.getElem_toArray, List.getElem_cons_succ, List.getElem_cons_zero, List.setIfInBounds_toArray, List.set_cons_zero, List.set_cons_succ]
          refine S_take (i := 13) (v := .bool false) rfl rfl (by kernel_rfl) (by kernel_rfl) (by kernel_rfl) (fun _ _ _ h => h) (Or.inl ⟨by rfl, fun W hw => by go_simp⟩) hS ?_
          simp only [Act.put, List.getElem_toArray, List.getElem_cons_succ, List.getElem_cons_zero, List.setIfInBounds_toArray, List.set_cons_zero, List.set_cons_succ]
          refine S_take (i := 14) (v := .bool false) rfl rfl (by kernel_rfl) (by kernel_rfl) (by kernel_rfl) (fun _ _ _ h => h) (Or.inl ⟨by rfl, fun W hw => by go_simp⟩) hS ?_
          simp only [Act.put, List.getElem_toArray, List.getElem_cons_succ, List.getElem_cons_zero, List.setIfInBounds_toArray, List.set_cons_zero, List.set_cons_succ]
          refine L_done (by kernel_rfl) ?_
          refine NoPanic.normal ?_
          go_upto_region 8 with (fail)
          refine any_beginL (fun _ => True) 99 (by kernel_rfl) ?_
          generalize hW0 : World.drew _ = W0
          refine S_take (i := 0) (v := .slice (some ⟨g, 0, none⟩) l.length cap) rfl rfl (by kernel_rfl) (by kernel_rfl) (by kernel_rfl) (fun _ _ _ h => h) (Or.inl ⟨by rfl, fun W hw => by go_simp⟩) trivial ?_
          simp only [Act.put, List.getElem_toArray, List.getElem_cons_succ, List.getElem_cons_zero, List.setIfInBounds_toArray, List.set_cons_zero, List.set_cons_succ]
          refine S_take (i := 1) (v := .int .i64 (s : Int)) rfl rfl (by kernel_rfl) (by kernel_rfl) (by kernel_rfl) (fun _ _ _ h => h) (Or.inl ⟨by rfl, fun W hw => by go_simp⟩) trivial ?_
          simp only [Act.put, List.getElem_toArray, List.getElem_cons_succ, List.getElem_cons_zero, List.setIfInBounds_toArray, List.set_cons_zero, List.set_cons_succ]
          refine S_take (i := 2) (v := .int .i64 (k : Int)) rfl rfl (by kernel_rfl) (by kernel_rfl) (by kernel_rfl) (fun _ _ _ h => h) (Or.inl ⟨by rfl, fun W hw => by go_simp⟩) trivial ?_
          simp only [Act.put, List.getElem_toArray, List.getElem_cons_succ, List.getElem_cons_zero, List.setIfInBounds_toArray, List.set_cons_zero, List.set_cons_succ]
          refine S_take (i := 3) (v := .int .i64 ((s : Int) + (k : Int))) rfl rfl (by kernel_rfl) (by kernel_rfl) (by kernel_rfl) (fun _ _ _ h => h) (Or.inl ⟨by rfl, fun W hw => by go_simp⟩) trivial ?_
          simp only [Act.put, List.getElem_toArray, List.getElem_cons_succ, List.getElem_cons_zero, List.setIfInBounds_toArray, List.set_cons_zero, List.set_cons_succ]
          refine S_take (i := 4) (v := .int .i64 (O : Int)) rfl rfl (by kernel_rfl) (by kernel_rfl) (by kernel_rfl) (fun _ _ _ h => h) (Or.inl ⟨by rfl, fun W hw => by go_simp⟩) trivial ?_
          simp only [Act.put, List.getElem_toArray, List.getElem_cons_succ, List.getElem_cons_zero, List.setIfInBounds_toArray, List.set_cons_zero, List.set_cons_succ]
          refine S_take (i := 5) (v := .int .i64 (ix : Int)) rfl rfl (by kernel_rfl) (by kernel_rfl) (by kernel_rfl) (fun _ _ _ h => h) (Or.inl ⟨by rfl, fun W hw => by go_simp <;> omega⟩) trivial ?_
          simp only [Act.put, List.getElem_toArray, List.getElem_cons_succ, List.getElem_cons_zero, List.setIfInBounds_toArray, List.set_cons_zero, List.set_cons_succ]
          refine S_take (i := 6) (v := .int .i64 (s : Int)) rfl rfl (by kernel_rfl) (by kernel_rfl) (by kernel_rfl) (fun _ _ _ h => h) (Or.inl ⟨by rfl, fun W hw => by go_simp⟩) trivial ?_
          simp only [Act.put, List.getElem_toArray, List.getElem_cons_succ, List.getElem_cons_zero, List.setIfInBounds_toArray, List.set_cons_zero, List.set_cons_succ]
          refine S_take (i := 7) (v := .int .i64 (k : Int)) rfl rfl (by kernel_rfl) (by kernel_rfl) (by kernel_rfl) (fun _ _ _ h => h) (Or.inl ⟨by rfl, fun W hw => by go_simp⟩) trivial ?_
          simp only [Act.put, List.getElem_toArray, List.getElem_cons_succ, List.getElem_cons_zero, List.setIfInBounds_toArray, List.set_cons_zero, List.set_cons_succ]
          refine S_take (i := 8) (v := .int .i64 ((s : Int) + (k : Int))) rfl rfl (by kernel_rfl) (by kernel_rfl) (by kernel_rfl) (fun _ _ _ h => h) (Or.inl ⟨by rfl, fun W hw => by go_simp⟩) trivial ?_
          simp only [Act.put, List.getElem_toArray, List.getElem_cons_succ, List.getElem_cons_zero, List.setIfInBounds_toArray, List.set_cons_zero, List.set_cons_succ]
          refine S_take (i := 9) (v := .int .i64 (O : Int)) rfl rfl (by kernel_rfl) (by kernel_rfl) (by kernel_rfl) (fun _ _ _ h => h) (Or.inl ⟨by rfl, fun W hw => by go_simp⟩) trivial ?_
          simp only [Act.put, List.getElem_toArray, List.getElem_cons_succ, List.getElem_cons_zero, List.setIfInBounds_toArray, List.set_cons_zero, List.set_cons_succ]
          refine S_take (i := 10) (v := .int .i64 (av : Int)) rfl rfl (by kernel_rfl) (by kernel_rfl) (by kernel_rfl) (fun _ _ _ h => h) (Or.inl ⟨by rfl, fun W hw => by go_simp <;> omega⟩) trivial ?_
          simp only [Act.put, List.getElem_toArray, List.getElem_cons_succ, List.getElem_cons_zero, List.setIfInBounds_toArray, List.set_cons_zero, List.set_cons_succ]
          refine S_take (i := 11) (v := .int .i64 (k : Int)) rfl rfl (by kernel_rfl) (by kernel_rfl) (by kernel_rfl) (fun _ _ _ h => h) (Or.inl ⟨by rfl, fun W hw => by go_simp⟩) trivial ?_
          simp only [Act.put, List.getElem_toArray, List.getElem_cons_succ, List.getElem_cons_zero, List.setIfInBounds_toArray, List.set_cons_zero, List.set_cons_succ]
          refine S_take (i := 12) (v := .agg #[.int .i64 (ix : Int), .int .i64 (av : Int), .int .i64 1, .int .i64 (k : Int)]) rfl rfl (by kernel_rfl) (by kernel_rfl) (by kernel_rfl) (fun _ _ _ h => h) (Or.inl ⟨by rfl, fun W hw => by go_simp⟩) trivial ?_
          simp only [Act.put, List.getElem_toArray, List.getElem_cons_succ, List.getElem_cons_zero, List.setIfInBounds_toArray, List.set_cons_zero, List.set_cons_succ]
          refine L_one (j := 13) (by kernel_rfl) rfl (by rfl) ?_
          simp only [Act.put, List.getElem_toArray, List.getElem_cons_succ, List.getElem_cons_zero, List.setIfInBounds_toArray, List.set_cons_zero, List.set_cons_succ]
          obtain ⟨W4, hW4⟩ : ∃ W', W' = World.alloc W0 (.cells (Pc.mk ix av 1 k).cs.toArray 38) := ⟨_, rfl⟩
          have hb0 : Below wr.heap.size wr W0 := by rw [← hW0]; exact ((below_drewN (Below.refl _ wr) _).drew)
          have hb4 : Below wr.heap.size wr W4 := by rw [hW4]; exact hb0.alloc hb0.size _
          have hn4 : Reads W4 (W0.heap.size + 1) 4 (some ⟨W0.heap.size, 0, none⟩) 1 (Pc.mk ix av 1 k).cs := by rw [hW4]; exact pc_new _ _ _
          refine wp_ran (v := .slice (some ⟨W0.heap.size, 0, none⟩) 1 1) (w' := W4) (by rw [hW4]; go_simp; rfl) ⟨trivial, ?_⟩
          simp only [Act.put, List.getElem_toArray, List.getElem_cons_succ, List.getElem_cons_zero, List.setIfInBounds_toArray, List.set_cons_zero, List.set_cons_succ]
          refine L_one (j := 14) (by kernel_rfl) rfl (by rfl) ?_
          simp only [Act.put, List.getElem_toArray, List.getElem_cons_succ, List.getElem_cons_zero, List.setIfInBounds_toArray, List.set_cons_zero, List.set_cons_succ]
          refine wp_app_pc (.tmp 41) (.tmp 54) 34 38 Try.underlying34 (.inr rfl) rfl w.heap.size (.slice (some ⟨g, 0, none⟩) l.length cap) l rfl (HO.out.since hb4) _ _ 1 (Pc.mk ix av 1 k) rfl hn4 HLL.out (Nat.le_trans HB.out.size hb4.size) ?_
          intro v5 W5 h5 g5
          refine ⟨trivial, ?_⟩
          simp only [Act.put, List.getElem_toArray, List.getElem_cons_succ, List.getElem_cons_zero, List.setIfInBounds_toArray, List.set_cons_zero, List.set_cons_succ]
          refine L_one (j := 15) (by kernel_rfl) rfl (by rfl) ?_
          simp only [Act.put, List.getElem_toArray, List.getElem_cons_succ, List.getElem_cons_zero, List.setIfInBounds_toArray, List.set_cons_zero, List.set_cons_succ]
          refine wp_ran (v := v5) (w' := W5) (by go_simp) ⟨trivial, ?_⟩
          simp only [Act.put, List.getElem_toArray, List.getElem_cons_succ, List.getElem_cons_zero, List.setIfInBounds_toArray, List.set_cons_zero, List.set_cons_succ]
          refine L_done (by kernel_rfl) ?_
          refine NoPanic.normal ?_
          have hbn : Below w.heap.size w W5 := (HB.out.trans (hb4.mono HB.out.size)).grown g5 (Nat.le_trans HB.out.size hb4.size) (fun j hj => (World.ownsRow.lt HO.out _ hj).1)
          go_wp2
          have hpn : Pc.new O s k = Pc.mk ix av 1 k := by obtain ⟨a, b⟩ := HX.out; rw [a, b]; rfl
          have e : addB O s k l = l ++ [Pc.mk ix av 1 k] := by rw [HJ.out.2, addB_other (by rw [← HX.out.1]; exact he), hpn]
          exact ⟨⟨k + 1, by omega, by go_num, by rw [← HADD.out, e]; exact h5, hbn⟩, by simp only [intS]; omega⟩
    · obtain rfl : k = n := by omega
      have dl : decide ((k : Int) < (k : Int)) = false := decide_eq_false (by omega)
      go_wp2
      go_ret
      exact ⟨_, rfl, HO.out, HB.out⟩
end Go.Proofs.Ytjnkfpnjdnknnaa
