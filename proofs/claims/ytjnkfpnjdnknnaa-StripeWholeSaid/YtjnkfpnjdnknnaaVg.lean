/-
  Pieces of the program: for all numbers. Conditions: numbers are 64 bits wide.
-/
import Derived.Test.YtjnkfpnjdnknnaaVb
namespace Go.Proofs.Ytjnkfpnjdnknnaa
open Go.RowKit Go.BigFrame
set_option linter.unusedSimpArgs false
set_option linter.unusedVariables false
set_option maxRecDepth 100000
/-- the first piece -/
def pcFst (O s n : Nat) : Pc := ⟨s / O, s % O, min (O - s % O) n, 0⟩
theorem range_cases {size s n : Int} (h0 : 0 ≤ size) (h : rangeB size s n = true) : ∃ a k : Nat, s = a ∧ n = k ∧ (a : Int) + k ≤ size := by
  unfold rangeB at h
  simp only [Bool.and_eq_true, decide_eq_true_eq] at h
  exact ⟨s.toNat, n.toNat, by omega, by omega, by omega⟩
theorem range_no {size s n : Int} (h : rangeB size s n = false) : s < 0 ∨ n < 0 ∨ size < s ∨ size - s < n := by
  unfold rangeB at h
  simp only [Bool.and_eq_false_iff, decide_eq_false_iff_not] at h
  omega
/-- what Pieces comes to where it is told no -/
theorem pieces_no (size obj s n : Int) (h1 : I64 size) (h2 : I64 obj) (hs : I64 s) (hn : I64 n) (h : goodB size obj = false ∨ rangeB size s n = false) (w : World) : Calls Try.prog 8 #[.int .i64 size, .int .i64 obj, .int .i64 s, .int .i64 n] w fun e w' => e = .returned (.tuple #[.slice none 0 0, errV 1]) ∧ Below w.heap.size w w' := by
  have HI := Lib.hid (isimage_any size obj w)
  obtain ⟨g, hg⟩ : ∃ g, g = goodB size obj := ⟨_, rfl⟩
  rw [← hg] at HI
  cases g with
  | false =>
    have HG := Lib.hid hg
    clear h hg
    go_enter Try.func8, Try.ntmps8
    go_wp2_with fail
    refine HI.out.mono ?_
    rintro e w1 ⟨rfl, b1⟩
    go_wp2
    go_ret2
    exact ⟨rfl, b1⟩
  | true =>
    have hr : rangeB size s n = false := by rcases h with h | h; (rw [h] at hg; cases hg); exact h
    obtain ⟨Z, O, rfl, rfl, hz1, ho1, ho2⟩ := good_cases hg.symm
    have hc := range_no hr
    have HC := Lib.hid hc
    clear h hr hg hc
    by_cases c1 : s < 0
    · have d1 : decide (s < 0) = true := decide_eq_true c1
      go_enter Try.func8, Try.ntmps8
      go_wp2_with fail
      refine HI.out.mono ?_
      rintro e w1 ⟨rfl, b1⟩
      go_wp2
      go_ret2
      exact ⟨rfl, b1⟩
    have d1 : decide (s < 0) = false := decide_eq_false c1
    by_cases c2 : n < 0
    · have d2 : decide (n < 0) = true := decide_eq_true c2
      go_enter Try.func8, Try.ntmps8
      go_wp2_with fail
      refine HI.out.mono ?_
      rintro e w1 ⟨rfl, b1⟩
      go_wp2
      go_ret2
      exact ⟨rfl, b1⟩
    have d2 : decide (n < 0) = false := decide_eq_false c2
    have hw : IntKind.i64.wrap ((Z : Int) - s) = (Z : Int) - s := wrap_in (by unfold I64 at *; omega)
    have d3 : decide ((Z : Int) - s < n) = true := decide_eq_true (by have := HC.out; omega)
    go_enter Try.func8, Try.ntmps8
    go_wp2_with fail
    refine HI.out.mono ?_
    rintro e w1 ⟨rfl, b1⟩
    go_wp2
    go_ret2
    exact ⟨rfl, b1⟩
/-- .. and where it is told pieces -/
def PiecesTo (O s n : Nat) (w : World) (e : Ending) (w' : World) : Prop := ∃ v, e = .returned (.tuple #[v, errV 0]) ∧ OwnP 37 w' w.heap.size v (pcsL O s n) ∧ Ch O s 0 (pcsL O s n) n ∧ ((n = 0 ∧ pcsL O s n = []) ∨ (pcsL O s n).head? = some (pcFst O s n)) ∧ Below w.heap.size w w'
set_option maxHeartbeats 8000000 in
theorem pieces_any (Z O s n : Nat) (hg : goodB Z O = true) (hr : s + n ≤ Z) (w : World) : Calls Try.prog 8 #[.int .i64 (Z : Int), .int .i64 (O : Int), .int .i64 (s : Int), .int .i64 (n : Int)] w (PiecesTo O s n w) := by
  have HI := Lib.hid (isimage_any Z O w)
  rw [hg] at HI
  have hz1 : Z ≤ 4096 ∧ 16 ≤ O ∧ O ≤ 256 := by
    obtain ⟨Z', O', e1, e2, hz1, ho1, ho2⟩ := good_cases hg
    omega
  obtain ⟨hz1, ho1, ho2⟩ := hz1
  clear hg
  have d1 : decide ((s : Int) < 0) = false := decide_eq_false (by omega)
  have d2 : decide ((n : Int) < 0) = false := decide_eq_false (by omega)
  have hw : IntKind.i64.wrap ((Z : Int) - (s : Int)) = (Z : Int) - (s : Int) := wrap_in (by unfold I64; omega)
  have d3 : decide ((Z : Int) - (s : Int) < (n : Int)) = false := decide_eq_false (by omega)
  go_enter Try.func8, Try.ntmps8
  go_wp2_with fail
  refine HI.out.mono ?_
  rintro e w1 ⟨rfl, b1⟩
  have HB1 := Lib.hid b1
  clear b1 HI
  go_wp2
  clear d1 d2 d3 hw
  go_loopw [10, 11] (fun lv i wr => ∃ f : Nat, f ≤ n ∧ i = .int .i64 f ∧ OwnP 37 wr w.heap.size lv (pcsL O s f) ∧ Ch O s 0 (pcsL O s f) f ∧ ((f = 0 ∧ pcsL O s f = []) ∨ (pcsL O s f).head? = some (pcFst O s n)) ∧ (f = n ∨ f = 0 ∨ (s + f) % O = 0) ∧ Below w.heap.size w wr) (fun _ i _ => n - (intS i).toNat)
  case atStart => exact ⟨0, by omega, rfl, OwnP.nil _ _ _, rfl, .inl ⟨rfl, rfl⟩, .inr (.inl rfl), HB1.out⟩
  case round =>
    obtain ⟨f, hf, rfl, ho, hch, hfs, hbd, hb⟩ := hrel
    obtain ⟨A1, cap, rfl, -⟩ := ho.form
    have HO := Lib.hid ho
    have HC := Lib.hid hch
    have HF := Lib.hid hfs
    have HD := Lib.hid hbd
    have HB := Lib.hid hb
    clear ho hch hfs hbd hb
    by_cases hlt : f < n
    · have dl : decide ((f : Int) < (n : Int)) = true := decide_eq_true (by omega)
      have hw1 : IntKind.i64.wrap ((s : Int) + (f : Int)) = (s : Int) + (f : Int) := wrap_in (by unfold I64; omega)
      obtain ⟨ix, hix⟩ : ∃ ix, ix = (s + f) / O := ⟨_, rfl⟩
      obtain ⟨av, hav⟩ : ∃ av, av = (s + f) % O := ⟨_, rfl⟩
      have hq : ((s : Int) + (f : Int)).tdiv (O : Int) = (ix : Int) := by rw [Int.tdiv_eq_ediv_of_nonneg (by omega)]; rw [hix, Int.natCast_ediv]; rfl
      have hm : ((s : Int) + (f : Int)).tmod (O : Int) = (av : Int) := by rw [Int.tmod_eq_emod_of_nonneg (by omega)]; rw [hav, Int.natCast_emod]; rfl
      have hml : av < O := by rw [hav]; exact Nat.mod_lt _ (by omega)
      have hdl : ix ≤ s + f := by rw [hix]; exact Nat.div_le_self _ _
      have HX := Lib.hid (And.intro hix hav)
      clear hix hav
      have hw2 : IntKind.i64.wrap (ix : Int) = (ix : Int) := wrap_in (by unfold I64; omega)
      have hw3 : IntKind.i64.wrap (av : Int) = (av : Int) := wrap_in (by unfold I64; omega)
      have hne2 : ((O : Int) == 0) = false := by simp; omega
      go_upto_region 6 with (fail)
      refine any_beginL (fun _ => True) 99 (by kernel_rfl) ?_
      refine S_take (i := 0) (v := .int .i64 (s : Int)) rfl rfl (by kernel_rfl) (by kernel_rfl) (by kernel_rfl) (fun _ _ _ h => h) (Or.inl ⟨by rfl, fun W hw => by go_simp⟩) trivial ?_
      simp only [Act.put, List.getElem_toArray, List.getElem_cons_succ, List.getElem_cons_zero, List.setIfInBounds_toArray, List.set_cons_zero, List.set_cons_succ]
      refine S_take (i := 1) (v := .int .i64 (f : Int)) rfl rfl (by kernel_rfl) (by kernel_rfl) (by kernel_rfl) (fun _ _ _ h => h) (Or.inl ⟨by rfl, fun W hw => by go_simp⟩) trivial ?_
      simp only [Act.put, List.getElem_toArray, List.getElem_cons_succ, List.getElem_cons_zero, List.setIfInBounds_toArray, List.set_cons_zero, List.set_cons_succ]
      refine S_take (i := 2) (v := .int .i64 ((s : Int) + (f : Int))) rfl rfl (by kernel_rfl) (by kernel_rfl) (by kernel_rfl) (fun _ _ _ h => h) (Or.inl ⟨by rfl, fun W hw => by go_simp⟩) trivial ?_
      simp only [Act.put, List.getElem_toArray, List.getElem_cons_succ, List.getElem_cons_zero, List.setIfInBounds_toArray, List.set_cons_zero, List.set_cons_succ]
      refine S_take (i := 3) (v := .int .i64 (O : Int)) rfl rfl (by kernel_rfl) (by kernel_rfl) (by kernel_rfl) (fun _ _ _ h => h) (Or.inl ⟨by rfl, fun W hw => by go_simp⟩) trivial ?_
      simp only [Act.put, List.getElem_toArray, List.getElem_cons_succ, List.getElem_cons_zero, List.setIfInBounds_toArray, List.set_cons_zero, List.set_cons_succ]
      refine S_take (i := 4) (v := .int .i64 (ix : Int)) rfl rfl (by kernel_rfl) (by kernel_rfl) (by kernel_rfl) (fun _ _ _ h => h) (Or.inl ⟨by rfl, fun W hw => by go_simp; omega⟩) trivial ?_
      simp only [Act.put, List.getElem_toArray, List.getElem_cons_succ, List.getElem_cons_zero, List.setIfInBounds_toArray, List.set_cons_zero, List.set_cons_succ]
      refine S_take (i := 5) (v := .int .i64 (s : Int)) rfl rfl (by kernel_rfl) (by kernel_rfl) (by kernel_rfl) (fun _ _ _ h => h) (Or.inl ⟨by rfl, fun W hw => by go_simp⟩) trivial ?_
      simp only [Act.put, List.getElem_toArray, List.getElem_cons_succ, List.getElem_cons_zero, List.setIfInBounds_toArray, List.set_cons_zero, List.set_cons_succ]
      refine S_take (i := 6) (v := .int .i64 (f : Int)) rfl rfl (by kernel_rfl) (by kernel_rfl) (by kernel_rfl) (fun _ _ _ h => h) (Or.inl ⟨by rfl, fun W hw => by go_simp⟩) trivial ?_
      simp only [Act.put, List.getElem_toArray, List.getElem_cons_succ, List.getElem_cons_zero, List.setIfInBounds_toArray, List.set_cons_zero, List.set_cons_succ]
      refine S_take (i := 7) (v := .int .i64 ((s : Int) + (f : Int))) rfl rfl (by kernel_rfl) (by kernel_rfl) (by kernel_rfl) (fun _ _ _ h => h) (Or.inl ⟨by rfl, fun W hw => by go_simp⟩) trivial ?_
      simp only [Act.put, List.getElem_toArray, List.getElem_cons_succ, List.getElem_cons_zero, List.setIfInBounds_toArray, List.set_cons_zero, List.set_cons_succ]
      refine S_take (i := 8) (v := .int .i64 (O : Int)) rfl rfl (by kernel_rfl) (by kernel_rfl) (by kernel_rfl) (fun _ _ _ h => h) (Or.inl ⟨by rfl, fun W hw => by go_simp⟩) trivial ?_
      simp only [Act.put, List.getElem_toArray, List.getElem_cons_succ, List.getElem_cons_zero, List.setIfInBounds_toArray, List.set_cons_zero, List.set_cons_succ]
      refine S_take (i := 9) (v := .int .i64 (av : Int)) rfl rfl (by kernel_rfl) (by kernel_rfl) (by kernel_rfl) (fun _ _ _ h => h) (Or.inl ⟨by rfl, fun W hw => by go_simp; omega⟩) trivial ?_
      simp only [Act.put, List.getElem_toArray, List.getElem_cons_succ, List.getElem_cons_zero, List.setIfInBounds_toArray, List.set_cons_zero, List.set_cons_succ]
      refine S_take (i := 10) (v := .int .i64 (f : Int)) rfl rfl (by kernel_rfl) (by kernel_rfl) (by kernel_rfl) (fun _ _ _ h => h) (Or.inl ⟨by rfl, fun W hw => by go_simp⟩) trivial ?_
      simp only [Act.put, List.getElem_toArray, List.getElem_cons_succ, List.getElem_cons_zero, List.setIfInBounds_toArray, List.set_cons_zero, List.set_cons_succ]
      refine S_take (i := 11) (v := .agg #[.int .i64 (ix : Int), .int .i64 (av : Int), .int .i64 0, .int .i64 (f : Int)]) rfl rfl (by kernel_rfl) (by kernel_rfl) (by kernel_rfl) (fun _ _ _ h => h) (Or.inl ⟨by rfl, fun W hw => by go_simp⟩) trivial ?_
      simp only [Act.put, List.getElem_toArray, List.getElem_cons_succ, List.getElem_cons_zero, List.setIfInBounds_toArray, List.set_cons_zero, List.set_cons_succ]
      refine L_one (j := 12) (by kernel_rfl) rfl (by rfl) ?_
      simp only [Act.put, List.getElem_toArray, List.getElem_cons_succ, List.getElem_cons_zero, List.setIfInBounds_toArray, List.set_cons_zero, List.set_cons_succ]
      obtain ⟨W2, hW⟩ : ∃ W', W' = World.alloc wr.drew (.cells #[.int .i64 0, .int .i64 0, .int .i64 0, .int .i64 0] 37) := ⟨_, rfl⟩
      have hx : Below wr.heap.size wr W2 := by rw [hW]; exact ((Below.refl _ wr).drew).alloc (Nat.le_refl _) _
      have hK : Blk W2 wr.heap.size 37 #[.int .i64 0, .int .i64 0, .int .i64 0, .int .i64 0] := by rw [hW]; exact Blk.new wr.drew _ _
      have hz2 : W2.heap.size = wr.heap.size + 1 := by rw [hW]; simp
      refine wp_ran (v := .pointer (some ⟨wr.heap.size, 0, none⟩)) (w' := W2) (by rw [hW]; exact (by go_simp)) ⟨trivial, ?_⟩
      simp only [Act.put, List.getElem_toArray, List.getElem_cons_succ, List.getElem_cons_zero, List.setIfInBounds_toArray, List.set_cons_zero, List.set_cons_succ]
      clear hW
      refine L_one (j := 13) (by kernel_rfl) rfl (by rfl) ?_
      simp only [Act.put, List.getElem_toArray, List.getElem_cons_succ, List.getElem_cons_zero, List.setIfInBounds_toArray, List.set_cons_zero, List.set_cons_succ]
      refine wp_storeq 37 (.tmp 12) (.tmp 47) rfl wr.heap.size _ [.int .i64 (ix : Int), .int .i64 (av : Int), .int .i64 0, .int .i64 (f : Int)] rfl rfl hK rfl (by kernel_rfl) (Pc.one _ _ _ _) ?_
      intro W3 K3 o3 s3
      have hb3 : Below wr.heap.size wr W3 := hx.trans (o3.below (fun x hx => by simp at hx; omega) (by omega))
      refine ⟨trivial, ?_⟩
      simp only [Act.put, List.getElem_toArray, List.getElem_cons_succ, List.getElem_cons_zero, List.setIfInBounds_toArray, List.set_cons_zero, List.set_cons_succ]
      refine L_done (by kernel_rfl) ?_
      refine NoPanic.normal ?_
      obtain ⟨ln, hln⟩ : ∃ ln, ln = min (O - av) (n - f) := ⟨_, rfl⟩
      have hl1 : 1 ≤ ln ∧ ln ≤ O - av ∧ ln ≤ n - f := by omega
      have HLN := Lib.hid hln
      have hwa : IntKind.i64.wrap ((O : Int) - (av : Int)) = (O : Int) - (av : Int) := wrap_in (by unfold I64; omega)
      have hwb : IntKind.i64.wrap ((n : Int) - (f : Int)) = (n : Int) - (f : Int) := wrap_in (by unfold I64; omega)
      have hwf : IntKind.i64.wrap ((f : Int) + (ln : Int)) = (f : Int) + (ln : Int) := wrap_in (by unfold I64; omega)
      have hmin : min ((O : Int) - (av : Int)) ((n : Int) - (f : Int)) = (ln : Int) := by omega
      have k1 : W3.cell? ⟨wr.heap.size, 1, none⟩ = some (.int .i64 (av : Int)) := K3.cell 1
      have HB3 := Lib.hid hb3
      have HK3 := Lib.hid K3
      clear hln hK hx o3 hb3 K3
      go_wp2_with (first | (refine wpList_min rfl (.tmp 51) (.tmp 54) rfl ((O : Int) - (av : Int)) ((n : Int) - (f : Int)) (ln : Int) rfl rfl hmin ?_) | (refine wpList_setq rfl 3 (.tmp 56) (.tmp 55) rfl wr.heap.size 2 _ _ (.int .i64 (ln : Int)) rfl rfl HK3.out (by simp) (by kernel_rfl) rfl ?_; intro W4 K4 o4 s4; have q0 : W4.cell? ⟨wr.heap.size, 0, none⟩ = some (.int .i64 (ix : Int)) := K4.cell 0; have q1 : W4.cell? ⟨wr.heap.size, 1, none⟩ = some (.int .i64 (av : Int)) := K4.cell 1; have q2 : W4.cell? ⟨wr.heap.size, 2, none⟩ = some (.int .i64 (ln : Int)) := K4.cell 2; have q3 : W4.cell? ⟨wr.heap.size, 3, none⟩ = some (.int .i64 (f : Int)) := K4.cell 3; have H4 := Lib.hid (And.intro o4 s4); have HK4 := Lib.hid K4; have hb4 := HB3.out.trans (o4.below (fun x hx => by simp at hx; omega) HB3.out.size); have HB4 := Lib.hid hb4; have hz4 := HB3.out.size; clear K4 o4 s4 hb4) | (refine wpList_app_pc rfl (.tmp 57) (.tmp 59) 25 37 Try.underlying25 (.inl rfl) rfl w.heap.size (.slice A1 (pcsL O s f).length cap) (pcsL O s f) rfl (HO.out.since (HB4.out.alloc HB4.out.size _)) (W4.heap.size + 1) _ 1 (Pc.mk ix av ln f) rfl (pc_new W4 _ (Pc.mk ix av ln f)) (by have := HC.out.len; omega) (by have := HB4.out.size; have := HB.out.size; simp; omega) ?_; intro v5 W5 h5 g5; have q5 : W5.cell? ⟨wr.heap.size, 2, none⟩ = some (.int .i64 (ln : Int)) := ((HK4.out.alloc _).grown g5 (fun e => by have := (World.ownsRow.lt HO.out _ e.symm).2; omega)).cell 2))
      have hbn : Below w.heap.size w W5 := ((HB.out.trans (HB4.out.mono HB.out.size)).alloc (Nat.le_trans HB.out.size HB4.out.size) _).grown g5 (by have := HB4.out.size; have := HB.out.size; simp; omega) (fun j hj => (World.ownsRow.lt HO.out _ hj).1)
      have hfd : f = 0 ∨ (s + f) % O = 0 := by have := HD.out; omega
      obtain ⟨hix, hav⟩ := HX.out
      have hgr := pcsL_grow (s := s) (f := f) (show 0 < O by omega) hfd (ln - 1) (by rw [← hav]; omega)
      rw [show ln - 1 + 1 = ln by omega, ← hix, ← hav] at hgr
      have hln := HLN.out
      refine ⟨⟨f + ln, by omega, congrArg _ (Int.natCast_add f ln).symm, by rw [hgr]; exact h5, ?_, ?_, ?_, hbn⟩, ?_⟩
      · rw [hgr]
        exact HC.out.snoc (p := Pc.mk ix av ln f) hix hav rfl hl1.1 (by show av + ln ≤ O; omega)
      · right
        rw [hgr]
        rcases HF.out with ⟨rfl, h0⟩ | h0
        · rw [h0]
          rw [Nat.add_zero] at hix hav
          rw [hix, hav, hln]
          rw [hav]
          simp [pcFst]
        · rw [List.head?_append, h0]
          rfl
      · by_cases hc : ln = n - f
        · left; omega
        · right; right
          have := mod_next (obj := O) (m := s + f) (by omega)
          rw [← hav] at this
          rw [← Nat.add_assoc, show ln = O - av by omega]
          exact this
      · simp only [intS]
        omega
    · obtain rfl : f = n := by omega
      have dl : decide ((f : Int) < (f : Int)) = false := decide_eq_false (by omega)
      go_wp2
      go_ret2
      exact ⟨_, rfl, HO.out, HC.out, HF.out, HB.out⟩
end Go.Proofs.Ytjnkfpnjdnknnaa
