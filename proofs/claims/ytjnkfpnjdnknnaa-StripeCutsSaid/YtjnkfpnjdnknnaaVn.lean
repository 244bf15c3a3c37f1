/-
  What is cut off, as the program tells it. Conditions: numbers are 64 bits wide.
-/
import Derived.Test.YtjnkfpnjdnknnaaVl
namespace Go.Proofs.Ytjnkfpnjdnknnaa
open Go.RowKit Go.BigFrame
set_option linter.unusedSimpArgs false
set_option linter.unusedVariables false
set_option maxRecDepth 100000
theorem results_cell_tmp3 {P : Program} {fn : Func} {p q r s : Tmp} {ty : TypeId} (h : fn.results = #[.cell p ty, .tmp q, .tmp r, .tmp s]) (tmps : Array Value) (w : World) (g : Nat) (t : TypeId) (cs : Array Value) (fr : Nat × Nat) (d : TypeDesc) (u v x : Value)
    (hp : tmps.getD p undef = .pointer (some ⟨g, 0, none⟩)) (hq : tmps.getD q undef = u) (hr : tmps.getD r undef = v) (hs : tmps.getD s undef = x) (hg : w.heap[g]? = some (.cells cs t fr))
    (hu : P.underlying ty = some d) (hd : (match d with | .struct _ | .array _ _ => true | _ => false) = true) (hi : (P.info? ty).map (·.size) = some cs.size) :
    (results fn tmps).run P w = .ok (.tuple #[.agg cs, u, v, x]) w := by
  have hp' : tmps[p]?.getD undef = .pointer (some ⟨g, 0, none⟩) := by simpa using hp
  have hq' : tmps[q]?.getD undef = u := by simpa using hq
  have hr' : tmps[r]?.getD undef = v := by simpa using hr
  have hs' : tmps[s]?.getD undef = x := by simpa using hs
  simp [results, h, hp', hq', hr', hs', asAddr, run_loadVar_row w g t ty cs fr d hg hu hd hi]
def zeroP : Pc := ⟨0, 0, 0, 0⟩
theorem edge_first {O t n : Nat} (hn : n ≠ 0) (h : t % O ≠ 0) : edgeP O t n = pcFst O t n := by unfold edgeP pcFst; rw [if_neg (by omega)]
theorem edge_none {O t n : Nat} (h : n = 0 ∨ t % O = 0) : edgeP O t n = zeroP := by unfold edgeP zeroP; rw [if_pos (by omega)]
theorem cut_no (size obj t : Int) (h1 : I64 size) (h2 : I64 obj) (ht : I64 t) (h : goodB size obj = false ∨ t < 0 ∨ size < t) (w : World) : Calls Try.prog 15 #[.int .i64 size, .int .i64 obj, .int .i64 t] w fun e w' => e = .returned (.tuple #[.agg zeroP.cs.toArray, .int .i64 0, .int .i64 0, errV 1]) ∧ Below w.heap.size w w' := by
  obtain ⟨n, hn⟩ : ∃ n, n = IntKind.i64.wrap (size - t) := ⟨_, rfl⟩
  have hn6 : I64 n := by rw [hn, IntKind.wrap_i64]; unfold I64; omega
  have hno : goodB size obj = false ∨ rangeB size t n = false := by
    by_cases hg : goodB size obj = false
    · exact .inl hg
    · right
      have hg' : goodB size obj = true := by cases h : goodB size obj; exact absurd h hg; rfl
      obtain ⟨Z, O, rfl, rfl, hz1, ho1, ho2⟩ := good_cases hg'
      rcases h with h | h | h
      · exact absurd h hg
      · unfold rangeB; rw [decide_eq_false (by omega)]; rfl
      · unfold rangeB
        have : n = (Z : Int) - t := by rw [hn]; exact wrap_in (by unfold I64 at *; omega)
        rw [decide_eq_false (show ¬ 0 ≤ n by omega)]
        simp
  have HP := Lib.hid (pieces_no size obj t n h1 h2 ht hn6 hno (w.alloc (.cells zeroP.cs.toArray 37)))
  have B0 := Lib.hid (below_alloc w (.cells zeroP.cs.toArray 37))
  have HK := Lib.hid (Blk.new w 37 zeroP.cs.toArray)
  have hz : (w.alloc (.cells zeroP.cs.toArray 37)).heap.size = w.heap.size + 1 := by simp
  have hwn : IntKind.i64.wrap (size - t) = n := hn.symm
  clear h hno hn
  go_enter Try.func15, Try.ntmps15
  go_wp2_with fail
  refine HP.out.mono ?_
  rintro e w1 ⟨he, b1⟩
  obtain rfl : e = .returned (.tuple #[.slice none 0 0, .iface 33 (.int .i64 1)]) := he
  have k1 := HK.out.of (b1.block _ HK.out.lt)
  have hz1 := b1.size
  have HB1 := Lib.hid (B0.out.trans (b1.mono (by omega)))
  clear b1
  go_wp2_with (have _h := k1; refine wpList_storeq rfl 37 (.tmp 6) (.tmp 23) rfl w.heap.size _ [.int .i64 0, .int .i64 0, .int .i64 0, .int .i64 0] rfl rfl k1 rfl (by kernel_rfl) (Pc.one _ _ _ _) ?_; clear _h k1; intro w2 K2 o2 s2)
  refine bodyPost_ret (results_cell_tmp3 rfl _ _ w.heap.size 37 _ (0, 0) _ _ _ _ rfl rfl rfl rfl K2 Try.underlying37 rfl (by kernel_rfl)) rfl ?_
  exact ⟨rfl, HB1.out.trans (o2.below (fun x hx => by simp at hx; omega) HB1.out.size)⟩
def CutTo (O t Z : Nat) (w : World) (e : Ending) (w' : World) : Prop := e = .returned (.tuple #[.agg (edgeP O t (Z - t)).cs.toArray, .int .i64 ((ceilO O t : Nat) : Int), .int .i64 ((ceilO O Z : Nat) : Int), errV 0]) ∧ Below w.heap.size w w'
set_option maxHeartbeats 8000000 in
theorem cut_any (Z O t : Nat) (hg : goodB Z O = true) (ht : t ≤ Z) (w : World) : Calls Try.prog 15 #[.int .i64 (Z : Int), .int .i64 (O : Int), .int .i64 (t : Int)] w (CutTo O t Z w) := by
  have hz1 : Z ≤ 4096 ∧ 16 ≤ O ∧ O ≤ 256 := by
    obtain ⟨Z', O', e1, e2, hz1, ho1, ho2⟩ := good_cases hg
    omega
  obtain ⟨hz1, ho1, ho2⟩ := hz1
  have HP := Lib.hid (pieces_any Z O t (Z - t) hg (by omega) (w.alloc (.cells zeroP.cs.toArray 37)))
  have HOT := Lib.hid (fun w => objects_any (t : Int) (O : Int) (by unfold I64; omega) (by unfold I64; omega) w)
  have HOZ := Lib.hid (fun w => objects_any (Z : Int) (O : Int) (by unfold I64; omega) (by unfold I64; omega) w)
  rw [objs_nat _ O (by omega)] at HOT HOZ
  unfold CutTo
  obtain ⟨ct, hct⟩ : ∃ c, c = ceilO O t := ⟨_, rfl⟩
  obtain ⟨cz, hcz⟩ : ∃ c, c = ceilO O Z := ⟨_, rfl⟩
  rw [← hct] at HOT
  rw [← hcz] at HOZ
  rw [← hct, ← hcz]
  obtain ⟨n, hn⟩ : ∃ n, n = Z - t := ⟨_, rfl⟩
  have hwn : IntKind.i64.wrap ((Z : Int) - (t : Int)) = (n : Int) := by rw [show (Z : Int) - (t : Int) = (n : Int) by omega]; exact wrap_in (by unfold I64; omega)
  rw [← hn] at HP ⊢
  have B0 := Lib.hid (below_alloc w (.cells zeroP.cs.toArray 37))
  have HK := Lib.hid (Blk.new w 37 zeroP.cs.toArray)
  have hz : (w.alloc (.cells zeroP.cs.toArray 37)).heap.size = w.heap.size + 1 := by simp
  obtain ⟨ix, hix⟩ : ∃ ix, ix = t / O := ⟨_, rfl⟩
  obtain ⟨av, hav⟩ : ∃ av, av = t % O := ⟨_, rfl⟩
  obtain ⟨ln, hln⟩ : ∃ ln, ln = min (O - av) n := ⟨_, rfl⟩
  have HX : Hid (pcFst O t n = ⟨ix, av, ln, 0⟩) := Lib.hid (by unfold pcFst; rw [hln, hix, hav])
  have HE1 : Hid (n ≠ 0 → av ≠ 0 → edgeP O t n = ⟨ix, av, ln, 0⟩) := Lib.hid fun h1 h2 => by rw [edge_first h1 (by rw [← hav]; exact h2), HX.out]
  have HE0 : Hid (n = 0 ∨ av = 0 → edgeP O t n = zeroP) := Lib.hid fun h => edge_none (by rw [← hav]; exact h)
  clear hn hct hcz hg hix hav hln
  go_enter Try.func15, Try.ntmps15
  go_wp2_with fail
  refine HP.out.mono ?_
  rintro e w1 ⟨v, he, ho, hch, hfs, b1⟩
  obtain rfl : e = .returned (.tuple #[v, .nilIface]) := he
  obtain ⟨A1, cap, rfl, -⟩ := ho.form
  have k1 := HK.out.of (b1.block _ HK.out.lt)
  have hz1 := b1.size
  have HB1 := Lib.hid (B0.out.trans (b1.mono (by omega)))
  have HK1 := Lib.hid k1
  clear b1 hch
  rcases hfs with ⟨h0, hl⟩ | hl
  · rw [hl]
    have HE := Lib.hid (HE0.out (.inl h0))
    clear ho
    simp only [List.length_nil]
    go_upto_region 6 with (fail)
    have hS : Blk (World.drew w1) w.heap.size 37 #[.int .i64 0, .int .i64 0, .int .i64 0, .int .i64 0] ∧ Below w.heap.size w (World.drew w1) := ⟨HK1.out, HB1.out.drew⟩
    refine any_beginL (fun W => Blk W w.heap.size 37 #[.int .i64 0, .int .i64 0, .int .i64 0, .int .i64 0] ∧ Below w.heap.size w W) 99 (by kernel_rfl) ?_
    refine S_take (i := 0) (v := .agg #[.int .i64 0, .int .i64 0, .int .i64 0, .int .i64 0]) rfl rfl (by kernel_rfl) (by kernel_rfl) (by kernel_rfl) (fun _ _ _ h => h) (Or.inl ⟨by rfl, fun W hw => by have k0 : W.cell? ⟨w.heap.size, 0, none⟩ = some (.int .i64 0) := hw.1.cell 0; have k1 : W.cell? ⟨w.heap.size, 1, none⟩ = some (.int .i64 0) := hw.1.cell 1; have k2 : W.cell? ⟨w.heap.size, 2, none⟩ = some (.int .i64 0) := hw.1.cell 2; have k3 : W.cell? ⟨w.heap.size, 3, none⟩ = some (.int .i64 0) := hw.1.cell 3; go_simp⟩) hS ?_
    simp only [Act.put, List.getElem_toArray, List.getElem_cons_succ, List.getElem_cons_zero, List.setIfInBounds_toArray, List.set_cons_zero, List.set_cons_succ]
    refine S_take (i := 1) (v := .int .i64 (t : Int)) rfl rfl (by kernel_rfl) (by kernel_rfl) (by kernel_rfl) (fun _ _ _ h => h) (Or.inl ⟨by rfl, fun W hw => by go_simp⟩) hS ?_
    simp only [Act.put, List.getElem_toArray, List.getElem_cons_succ, List.getElem_cons_zero, List.setIfInBounds_toArray, List.set_cons_zero, List.set_cons_succ]
    refine S_take (i := 2) (v := .int .i64 (O : Int)) rfl rfl (by kernel_rfl) (by kernel_rfl) (by kernel_rfl) (fun _ _ _ h => h) (Or.inl ⟨by rfl, fun W hw => by go_simp⟩) hS ?_
    simp only [Act.put, List.getElem_toArray, List.getElem_cons_succ, List.getElem_cons_zero, List.setIfInBounds_toArray, List.set_cons_zero, List.set_cons_succ]
    refine S_take (i := 4) (v := .int .i64 (Z : Int)) rfl rfl (by kernel_rfl) (by kernel_rfl) (by kernel_rfl) (fun _ _ _ h => h) (Or.inl ⟨by rfl, fun W hw => by go_simp⟩) hS ?_
    simp only [Act.put, List.getElem_toArray, List.getElem_cons_succ, List.getElem_cons_zero, List.setIfInBounds_toArray, List.set_cons_zero, List.set_cons_succ]
    refine S_take (i := 5) (v := .int .i64 (O : Int)) rfl rfl (by kernel_rfl) (by kernel_rfl) (by kernel_rfl) (fun _ _ _ h => h) (Or.inl ⟨by rfl, fun W hw => by go_simp⟩) hS ?_
    simp only [Act.put, List.getElem_toArray, List.getElem_cons_succ, List.getElem_cons_zero, List.setIfInBounds_toArray, List.set_cons_zero, List.set_cons_succ]
    refine L_one (j := 3) (by kernel_rfl) rfl (by rfl) ?_
    simp only [Act.put, List.getElem_toArray, List.getElem_cons_succ, List.getElem_cons_zero, List.setIfInBounds_toArray, List.set_cons_zero, List.set_cons_succ]
    refine wp_called (by go_simp) (HOT.out _) ?_
    rintro e W3 ⟨rfl, rfl⟩
    refine ⟨_, rfl, hS, ?_⟩
    simp only [Act.put, List.getElem_toArray, List.getElem_cons_succ, List.getElem_cons_zero, List.setIfInBounds_toArray, List.set_cons_zero, List.set_cons_succ]
    refine L_one (j := 6) (by kernel_rfl) rfl (by rfl) ?_
    simp only [Act.put, List.getElem_toArray, List.getElem_cons_succ, List.getElem_cons_zero, List.setIfInBounds_toArray, List.set_cons_zero, List.set_cons_succ]
    refine wp_called (by go_simp) (HOZ.out _) ?_
    rintro e W3 ⟨rfl, rfl⟩
    refine ⟨_, rfl, hS, ?_⟩
    simp only [Act.put, List.getElem_toArray, List.getElem_cons_succ, List.getElem_cons_zero, List.setIfInBounds_toArray, List.set_cons_zero, List.set_cons_succ]
    refine L_one (j := 7) (by kernel_rfl) rfl (by rfl) ?_
    simp only [Act.put, List.getElem_toArray, List.getElem_cons_succ, List.getElem_cons_zero, List.setIfInBounds_toArray, List.set_cons_zero, List.set_cons_succ]
    refine wp_storeq 37 (.tmp 6) (.tmp 38) rfl w.heap.size _ [.int .i64 0, .int .i64 0, .int .i64 0, .int .i64 0] rfl rfl hS.1 rfl (by kernel_rfl) (Pc.one _ _ _ _) ?_
    intro W9 K9 o9 s9
    have hS : Blk W9 w.heap.size 37 #[.int .i64 0, .int .i64 0, .int .i64 0, .int .i64 0] ∧ Below w.heap.size w W9 := ⟨K9, hS.2.trans (o9.below (fun x hx => by simp at hx; omega) hS.2.size)⟩
    refine ⟨hS, ?_⟩
    simp only [Act.put, List.getElem_toArray, List.getElem_cons_succ, List.getElem_cons_zero, List.setIfInBounds_toArray, List.set_cons_zero, List.set_cons_succ]
    refine S_take (i := 8) (v := .int .i64 (ct : Int)) rfl rfl (by kernel_rfl) (by kernel_rfl) (by kernel_rfl) (fun _ _ _ h => h) (Or.inl ⟨by rfl, fun W hw => by go_simp⟩) hS ?_
    simp only [Act.put, List.getElem_toArray, List.getElem_cons_succ, List.getElem_cons_zero, List.setIfInBounds_toArray, List.set_cons_zero, List.set_cons_succ]
    refine S_take (i := 9) (v := .int .i64 (cz : Int)) rfl rfl (by kernel_rfl) (by kernel_rfl) (by kernel_rfl) (fun _ _ _ h => h) (Or.inl ⟨by rfl, fun W hw => by go_simp⟩) hS ?_
    simp only [Act.put, List.getElem_toArray, List.getElem_cons_succ, List.getElem_cons_zero, List.setIfInBounds_toArray, List.set_cons_zero, List.set_cons_succ]
    refine S_take (i := 10) (v := .nilIface) rfl rfl (by kernel_rfl) (by kernel_rfl) (by kernel_rfl) (fun _ _ _ h => h) (Or.inl ⟨by rfl, fun W hw => by go_simp⟩) hS ?_
    simp only [Act.put, List.getElem_toArray, List.getElem_cons_succ, List.getElem_cons_zero, List.setIfInBounds_toArray, List.set_cons_zero, List.set_cons_succ]
    refine L_done (by kernel_rfl) ?_
    refine NoPanic.normal ?_
    go_wp2
    refine bodyPost_ret (results_cell_tmp3 rfl _ _ w.heap.size 37 _ (0, 0) _ _ _ _ rfl rfl rfl rfl hS.1 Try.underlying37 rfl (by kernel_rfl)) rfl ?_
    exact ⟨by rw [HE.out]; rfl, hS.2⟩
  · have hn0 : n ≠ 0 := by
      rintro rfl
      exact absurd hl (by simp [pcsL])
    rw [HX.out] at hl
    obtain ⟨r, hr⟩ : ∃ r, pcsL O t n = ⟨ix, av, ln, 0⟩ :: r := by
      cases hq : pcsL O t n with
      | nil => rw [hq] at hl; cases hl
      | cons a r => rw [hq] at hl; injection hl with hl; exact ⟨r, by rw [hl]⟩
    rw [hr] at ho ⊢
    obtain ⟨g, rfl, -, hg2, -, c⟩ := ho.at0 (k := 0) (p := ⟨ix, av, ln, 0⟩) rfl
    have c0 : w1.cell? ⟨g, 0, none⟩ = some (.int .i64 (ix : Int)) := by have := c 0 _ rfl; simpa using this
    have c1 : w1.cell? ⟨g, 1, none⟩ = some (.int .i64 (av : Int)) := by have := c 1 _ rfl; simpa using this
    have c2 : w1.cell? ⟨g, 2, none⟩ = some (.int .i64 (ln : Int)) := by have := c 2 _ rfl; simpa using this
    have c3 : w1.cell? ⟨g, 3, none⟩ = some (.int .i64 0) := by have := c 3 _ rfl; simpa using this
    obtain ⟨ll, hll⟩ : ∃ ll, ll = (Pc.mk ix av ln 0 :: r).length := ⟨_, rfl⟩
    have hl0 : decide (0 < (ll : Int)) = true := decide_eq_true (by rw [hll]; simp)
    have hl1 : 0 < ll := by rw [hll]; simp
    rw [← hll]
    clear ho c hr hl hll hg2
    by_cases hav : av = 0
    · have HE := Lib.hid (HE0.out (.inr hav))
      have hd : decide (0 < (av : Int)) = false := decide_eq_false (by omega)
      go_upto_region 6 with (fail)
      have hS : Blk (World.drew w1) w.heap.size 37 #[.int .i64 0, .int .i64 0, .int .i64 0, .int .i64 0] ∧ Below w.heap.size w (World.drew w1) := ⟨HK1.out, HB1.out.drew⟩
      refine any_beginL (fun W => Blk W w.heap.size 37 #[.int .i64 0, .int .i64 0, .int .i64 0, .int .i64 0] ∧ Below w.heap.size w W) 99 (by kernel_rfl) ?_
      refine S_take (i := 0) (v := .agg #[.int .i64 0, .int .i64 0, .int .i64 0, .int .i64 0]) rfl rfl (by kernel_rfl) (by kernel_rfl) (by kernel_rfl) (fun _ _ _ h => h) (Or.inl ⟨by rfl, fun W hw => by have k0 : W.cell? ⟨w.heap.size, 0, none⟩ = some (.int .i64 0) := hw.1.cell 0; have k1 : W.cell? ⟨w.heap.size, 1, none⟩ = some (.int .i64 0) := hw.1.cell 1; have k2 : W.cell? ⟨w.heap.size, 2, none⟩ = some (.int .i64 0) := hw.1.cell 2; have k3 : W.cell? ⟨w.heap.size, 3, none⟩ = some (.int .i64 0) := hw.1.cell 3; go_simp⟩) hS ?_
      simp only [Act.put, List.getElem_toArray, List.getElem_cons_succ, List.getElem_cons_zero, List.setIfInBounds_toArray, List.set_cons_zero, List.set_cons_succ]
      refine S_take (i := 1) (v := .int .i64 (t : Int)) rfl rfl (by kernel_rfl) (by kernel_rfl) (by kernel_rfl) (fun _ _ _ h => h) (Or.inl ⟨by rfl, fun W hw => by go_simp⟩) hS ?_
      simp only [Act.put, List.getElem_toArray, List.getElem_cons_succ, List.getElem_cons_zero, List.setIfInBounds_toArray, List.set_cons_zero, List.set_cons_succ]
      refine S_take (i := 2) (v := .int .i64 (O : Int)) rfl rfl (by kernel_rfl) (by kernel_rfl) (by kernel_rfl) (fun _ _ _ h => h) (Or.inl ⟨by rfl, fun W hw => by go_simp⟩) hS ?_
      simp only [Act.put, List.getElem_toArray, List.getElem_cons_succ, List.getElem_cons_zero, List.setIfInBounds_toArray, List.set_cons_zero, List.set_cons_succ]
      refine S_take (i := 4) (v := .int .i64 (Z : Int)) rfl rfl (by kernel_rfl) (by kernel_rfl) (by kernel_rfl) (fun _ _ _ h => h) (Or.inl ⟨by rfl, fun W hw => by go_simp⟩) hS ?_
      simp only [Act.put, List.getElem_toArray, List.getElem_cons_succ, List.getElem_cons_zero, List.setIfInBounds_toArray, List.set_cons_zero, List.set_cons_succ]
      refine S_take (i := 5) (v := .int .i64 (O : Int)) rfl rfl (by kernel_rfl) (by kernel_rfl) (by kernel_rfl) (fun _ _ _ h => h) (Or.inl ⟨by rfl, fun W hw => by go_simp⟩) hS ?_
      simp only [Act.put, List.getElem_toArray, List.getElem_cons_succ, List.getElem_cons_zero, List.setIfInBounds_toArray, List.set_cons_zero, List.set_cons_succ]
      refine L_one (j := 3) (by kernel_rfl) rfl (by rfl) ?_
      simp only [Act.put, List.getElem_toArray, List.getElem_cons_succ, List.getElem_cons_zero, List.setIfInBounds_toArray, List.set_cons_zero, List.set_cons_succ]
      refine wp_called (by go_simp) (HOT.out _) ?_
      rintro e W3 ⟨rfl, rfl⟩
      refine ⟨_, rfl, hS, ?_⟩
      simp only [Act.put, List.getElem_toArray, List.getElem_cons_succ, List.getElem_cons_zero, List.setIfInBounds_toArray, List.set_cons_zero, List.set_cons_succ]
      refine L_one (j := 6) (by kernel_rfl) rfl (by rfl) ?_
      simp only [Act.put, List.getElem_toArray, List.getElem_cons_succ, List.getElem_cons_zero, List.setIfInBounds_toArray, List.set_cons_zero, List.set_cons_succ]
      refine wp_called (by go_simp) (HOZ.out _) ?_
      rintro e W3 ⟨rfl, rfl⟩
      refine ⟨_, rfl, hS, ?_⟩
      simp only [Act.put, List.getElem_toArray, List.getElem_cons_succ, List.getElem_cons_zero, List.setIfInBounds_toArray, List.set_cons_zero, List.set_cons_succ]
      refine L_one (j := 7) (by kernel_rfl) rfl (by rfl) ?_
      simp only [Act.put, List.getElem_toArray, List.getElem_cons_succ, List.getElem_cons_zero, List.setIfInBounds_toArray, List.set_cons_zero, List.set_cons_succ]
      refine wp_storeq 37 (.tmp 6) (.tmp 38) rfl w.heap.size _ [.int .i64 0, .int .i64 0, .int .i64 0, .int .i64 0] rfl rfl hS.1 rfl (by kernel_rfl) (Pc.one _ _ _ _) ?_
      intro W9 K9 o9 s9
      have hS : Blk W9 w.heap.size 37 #[.int .i64 0, .int .i64 0, .int .i64 0, .int .i64 0] ∧ Below w.heap.size w W9 := ⟨K9, hS.2.trans (o9.below (fun x hx => by simp at hx; omega) hS.2.size)⟩
      refine ⟨hS, ?_⟩
      simp only [Act.put, List.getElem_toArray, List.getElem_cons_succ, List.getElem_cons_zero, List.setIfInBounds_toArray, List.set_cons_zero, List.set_cons_succ]
      refine S_take (i := 8) (v := .int .i64 (ct : Int)) rfl rfl (by kernel_rfl) (by kernel_rfl) (by kernel_rfl) (fun _ _ _ h => h) (Or.inl ⟨by rfl, fun W hw => by go_simp⟩) hS ?_
      simp only [Act.put, List.getElem_toArray, List.getElem_cons_succ, List.getElem_cons_zero, List.setIfInBounds_toArray, List.set_cons_zero, List.set_cons_succ]
      refine S_take (i := 9) (v := .int .i64 (cz : Int)) rfl rfl (by kernel_rfl) (by kernel_rfl) (by kernel_rfl) (fun _ _ _ h => h) (Or.inl ⟨by rfl, fun W hw => by go_simp⟩) hS ?_
      simp only [Act.put, List.getElem_toArray, List.getElem_cons_succ, List.getElem_cons_zero, List.setIfInBounds_toArray, List.set_cons_zero, List.set_cons_succ]
      refine S_take (i := 10) (v := .nilIface) rfl rfl (by kernel_rfl) (by kernel_rfl) (by kernel_rfl) (fun _ _ _ h => h) (Or.inl ⟨by rfl, fun W hw => by go_simp⟩) hS ?_
      simp only [Act.put, List.getElem_toArray, List.getElem_cons_succ, List.getElem_cons_zero, List.setIfInBounds_toArray, List.set_cons_zero, List.set_cons_succ]
      refine L_done (by kernel_rfl) ?_
      refine NoPanic.normal ?_
      go_wp2
      refine bodyPost_ret (results_cell_tmp3 rfl _ _ w.heap.size 37 _ (0, 0) _ _ _ _ rfl rfl rfl rfl hS.1 Try.underlying37 rfl (by kernel_rfl)) rfl ?_
      exact ⟨by rw [HE.out]; rfl, hS.2⟩
    · have HE := Lib.hid (HE1.out hn0 hav)
      have hd : decide (0 < (av : Int)) = true := decide_eq_true (by omega)
      go_wp2_with (have _h := HK1; refine wpList_storeq rfl 37 (.tmp 6) (.tmp 37) rfl w.heap.size _ [.int .i64 (ix : Int), .int .i64 (av : Int), .int .i64 (ln : Int), .int .i64 0] rfl rfl HK1.out rfl (by kernel_rfl) (Pc.one _ _ _ _) ?_; clear _h HK1; intro w2 K2 o2 s2)
      have HB2 := Lib.hid (HB1.out.trans (o2.below (fun x hx => by simp at hx; omega) HB1.out.size))
      go_upto_region 6 with (fail)
      have hS : Blk (World.drew w2) w.heap.size 37 #[.int .i64 (ix : Int), .int .i64 (av : Int), .int .i64 (ln : Int), .int .i64 0] ∧ Below w.heap.size w (World.drew w2) := ⟨K2, HB2.out.drew⟩
      refine any_beginL (fun W => Blk W w.heap.size 37 #[.int .i64 (ix : Int), .int .i64 (av : Int), .int .i64 (ln : Int), .int .i64 0] ∧ Below w.heap.size w W) 99 (by kernel_rfl) ?_
      refine S_take (i := 0) (v := .agg #[.int .i64 (ix : Int), .int .i64 (av : Int), .int .i64 (ln : Int), .int .i64 0]) rfl rfl (by kernel_rfl) (by kernel_rfl) (by kernel_rfl) (fun _ _ _ h => h) (Or.inl ⟨by rfl, fun W hw => by have k0 : W.cell? ⟨w.heap.size, 0, none⟩ = some (.int .i64 (ix : Int)) := hw.1.cell 0; have k1 : W.cell? ⟨w.heap.size, 1, none⟩ = some (.int .i64 (av : Int)) := hw.1.cell 1; have k2 : W.cell? ⟨w.heap.size, 2, none⟩ = some (.int .i64 (ln : Int)) := hw.1.cell 2; have k3 : W.cell? ⟨w.heap.size, 3, none⟩ = some (.int .i64 0) := hw.1.cell 3; go_simp⟩) hS ?_
      simp only [Act.put, List.getElem_toArray, List.getElem_cons_succ, List.getElem_cons_zero, List.setIfInBounds_toArray, List.set_cons_zero, List.set_cons_succ]
      refine S_take (i := 1) (v := .int .i64 (t : Int)) rfl rfl (by kernel_rfl) (by kernel_rfl) (by kernel_rfl) (fun _ _ _ h => h) (Or.inl ⟨by rfl, fun W hw => by go_simp⟩) hS ?_
      simp only [Act.put, List.getElem_toArray, List.getElem_cons_succ, List.getElem_cons_zero, List.setIfInBounds_toArray, List.set_cons_zero, List.set_cons_succ]
      refine S_take (i := 2) (v := .int .i64 (O : Int)) rfl rfl (by kernel_rfl) (by kernel_rfl) (by kernel_rfl) (fun _ _ _ h => h) (Or.inl ⟨by rfl, fun W hw => by go_simp⟩) hS ?_
      simp only [Act.put, List.getElem_toArray, List.getElem_cons_succ, List.getElem_cons_zero, List.setIfInBounds_toArray, List.set_cons_zero, List.set_cons_succ]
      refine S_take (i := 4) (v := .int .i64 (Z : Int)) rfl rfl (by kernel_rfl) (by kernel_rfl) (by kernel_rfl) (fun _ _ _ h => h) (Or.inl ⟨by rfl, fun W hw => by go_simp⟩) hS ?_
      simp only [Act.put, List.getElem_toArray, List.getElem_cons_succ, List.getElem_cons_zero, List.setIfInBounds_toArray, List.set_cons_zero, List.set_cons_succ]
      refine S_take (i := 5) (v := .int .i64 (O : Int)) rfl rfl (by kernel_rfl) (by kernel_rfl) (by kernel_rfl) (fun _ _ _ h => h) (Or.inl ⟨by rfl, fun W hw => by go_simp⟩) hS ?_
      simp only [Act.put, List.getElem_toArray, List.getElem_cons_succ, List.getElem_cons_zero, List.setIfInBounds_toArray, List.set_cons_zero, List.set_cons_succ]
      refine L_one (j := 3) (by kernel_rfl) rfl (by rfl) ?_
      simp only [Act.put, List.getElem_toArray, List.getElem_cons_succ, List.getElem_cons_zero, List.setIfInBounds_toArray, List.set_cons_zero, List.set_cons_succ]
      refine wp_called (by go_simp) (HOT.out _) ?_
      rintro e W3 ⟨rfl, rfl⟩
      refine ⟨_, rfl, hS, ?_⟩
      simp only [Act.put, List.getElem_toArray, List.getElem_cons_succ, List.getElem_cons_zero, List.setIfInBounds_toArray, List.set_cons_zero, List.set_cons_succ]
      refine L_one (j := 6) (by kernel_rfl) rfl (by rfl) ?_
      simp only [Act.put, List.getElem_toArray, List.getElem_cons_succ, List.getElem_cons_zero, List.setIfInBounds_toArray, List.set_cons_zero, List.set_cons_succ]
      refine wp_called (by go_simp) (HOZ.out _) ?_
      rintro e W3 ⟨rfl, rfl⟩
      refine ⟨_, rfl, hS, ?_⟩
      simp only [Act.put, List.getElem_toArray, List.getElem_cons_succ, List.getElem_cons_zero, List.setIfInBounds_toArray, List.set_cons_zero, List.set_cons_succ]
      refine L_one (j := 7) (by kernel_rfl) rfl (by rfl) ?_
      simp only [Act.put, List.getElem_toArray, List.getElem_cons_succ, List.getElem_cons_zero, List.setIfInBounds_toArray, List.set_cons_zero, List.set_cons_succ]
      refine wp_storeq 37 (.tmp 6) (.tmp 38) rfl w.heap.size _ [.int .i64 (ix : Int), .int .i64 (av : Int), .int .i64 (ln : Int), .int .i64 0] rfl rfl hS.1 rfl (by kernel_rfl) (Pc.one _ _ _ _) ?_
      intro W9 K9 o9 s9
      have hS : Blk W9 w.heap.size 37 #[.int .i64 (ix : Int), .int .i64 (av : Int), .int .i64 (ln : Int), .int .i64 0] ∧ Below w.heap.size w W9 := ⟨K9, hS.2.trans (o9.below (fun x hx => by simp at hx; omega) hS.2.size)⟩
      refine ⟨hS, ?_⟩
      simp only [Act.put, List.getElem_toArray, List.getElem_cons_succ, List.getElem_cons_zero, List.setIfInBounds_toArray, List.set_cons_zero, List.set_cons_succ]
      refine S_take (i := 8) (v := .int .i64 (ct : Int)) rfl rfl (by kernel_rfl) (by kernel_rfl) (by kernel_rfl) (fun _ _ _ h => h) (Or.inl ⟨by rfl, fun W hw => by go_simp⟩) hS ?_
      simp only [Act.put, List.getElem_toArray, List.getElem_cons_succ, List.getElem_cons_zero, List.setIfInBounds_toArray, List.set_cons_zero, List.set_cons_succ]
      refine S_take (i := 9) (v := .int .i64 (cz : Int)) rfl rfl (by kernel_rfl) (by kernel_rfl) (by kernel_rfl) (fun _ _ _ h => h) (Or.inl ⟨by rfl, fun W hw => by go_simp⟩) hS ?_
      simp only [Act.put, List.getElem_toArray, List.getElem_cons_succ, List.getElem_cons_zero, List.setIfInBounds_toArray, List.set_cons_zero, List.set_cons_succ]
      refine S_take (i := 10) (v := .nilIface) rfl rfl (by kernel_rfl) (by kernel_rfl) (by kernel_rfl) (fun _ _ _ h => h) (Or.inl ⟨by rfl, fun W hw => by go_simp⟩) hS ?_
      simp only [Act.put, List.getElem_toArray, List.getElem_cons_succ, List.getElem_cons_zero, List.setIfInBounds_toArray, List.set_cons_zero, List.set_cons_succ]
      refine L_done (by kernel_rfl) ?_
      refine NoPanic.normal ?_
      go_wp2
      refine bodyPost_ret (results_cell_tmp3 rfl _ _ w.heap.size 37 _ (0, 0) _ _ _ _ rfl rfl rfl rfl hS.1 Try.underlying37 rfl (by kernel_rfl)) rfl ?_
      exact ⟨by rw [HE.out]; rfl, hS.2⟩
end Go.Proofs.Ytjnkfpnjdnknnaa
