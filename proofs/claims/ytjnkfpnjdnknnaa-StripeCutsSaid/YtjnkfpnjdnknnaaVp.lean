/-
  What is cut off, as the document tells it. Conditions: the image is a good one, the cut lies in it.
-/
import Derived.Test.YtjnkfpnjdnknnaaVn
namespace Go.Proofs.Ytjnkfpnjdnknnaa
open Go.RowKit Go.BigFrame
set_option linter.unusedSimpArgs false
set_option linter.unusedVariables false
set_option maxRecDepth 100000
def natS (l : List Nat) : List Value := l.map fun (x : Nat) => .int .i64 (x : Int)
/-- a row of numbers of the call's own -/
def OwnG (w : World) (base : Nat) (v : Value) (l : List Nat) : Prop := w.ownsRow base 3 1 v l.length (natS l)
theorem natS_one (l : List Nat) : ∀ u ∈ natS l, u.oneCell' = true := by
  intro u hu
  obtain ⟨e, _, rfl⟩ := List.mem_map.1 hu
  rfl
section
variable {w w' : World} {base n c : Nat} {A : Option Addr} {v : Value} {l : List Nat}
theorem OwnG.form (h : OwnG w base v l) : ∃ (A : Option Addr) (cap : Nat), v = .slice A l.length cap ∧ (∀ a, A = some a → base ≤ a.block ∧ a.block < w.heap.size ∧ a = ⟨a.block, 0, none⟩) := by
  rcases h.2 with ⟨rfl, h0⟩ | ⟨g, cap, cur, rfl, hb, hh, _⟩
  · exact ⟨none, 0, by rw [h0], fun a e => by cases e⟩
  · refine ⟨_, cap, rfl, fun a e => ?_⟩
    injection e with e
    subst e
    exact ⟨hb, Blk.lt (t := 3) hh, rfl⟩
theorem OwnG.since (h : OwnG w base v l) (hb : Below w.heap.size w w') : OwnG w' base v l := row_of h fun k hk => hb.block k (World.ownsRow.lt h k (mem_rowOf.1 hk)).2
theorem OwnG.only (h : OwnG w base v l) {F : List Nat} (ho : Only F w w') (hF : ∀ x ∈ F, x < base) : OwnG w' base v l :=
  row_of h fun k hk => ho.block k (World.ownsRow.lt h k (mem_rowOf.1 hk)).2 fun hm => by have := hF k hm; have := (World.ownsRow.lt h k (mem_rowOf.1 hk)).1; omega
theorem OwnG.at0 {m : Nat} (h : OwnG w base (.slice A m c) l) {k x : Nat} (hk : l[k]? = some x) : ∃ g : Nat, A = some ⟨g, 0, none⟩ ∧ m = l.length ∧ g < w.heap.size ∧ base ≤ g ∧ w.cell? ⟨g, k, none⟩ = some (.int .i64 (x : Int)) := by
  have hl := (List.getElem?_eq_some_iff.1 hk).1
  obtain ⟨A', cap', e, ha⟩ := h.form
  injection e with e1 e2 e3
  subst e2
  obtain ⟨ad, e, hb, hc⟩ := (Reads.of_own h).2 (by omega)
  have h3 := ha ad (by rw [← e1]; exact e)
  obtain ⟨g, hg⟩ : ∃ g, g = ad.block := ⟨_, rfl⟩
  rw [← hg] at h3 hb
  have h4 := h3.2.2
  subst h4
  refine ⟨g, e, rfl, hb, h3.1, ?_⟩
  have := hc k (.int .i64 (x : Int)) (by simp [natS, hk])
  rw [add_zero_off] at this
  exact this
end
theorem int_info : (Try.prog.info? 3).map (fun i => (i.zero, i.size, i.bytes)) = some (some (.int .i64 0), 1, 8) := by kernel_rfl
theorem wpList_app_n {ops : Array Oper} {rest : List Oper} {w : World} {o : Oper} {a : Act} {Q : Exit → Act → World → Prop} (hgd : o.guard = none) (s x : Operand)
    (ho : o.op = .call { callee := .builtin .append, args := #[s, x], argTypes := #[45, 45] })
    (base : Nat) (v : Value) (l : List Nat) (hs : a.eval s = v) (hown : OwnG w base v l)
    (B : Nat) (A : Option Addr) (c : Nat) (p : Nat) (hx : a.eval x = .slice A 1 c) (hr : Reads w B 1 A 1 [.int .i64 (p : Int)]) (hsz : l.length ≤ 10000000) (hbase : base ≤ w.heap.size)
    (h : ∀ v' w', OwnG w' base v' (l ++ [p]) → w.grownBy w' v.ownBlock → wpList Try.prog ops Q rest (a.put o.dst v') w') : wpList Try.prog ops Q (o :: rest) a w := by
  obtain ⟨i0, hi0, hz0, hz1, hz2⟩ := info_parts int_info
  refine wpList_append_any w hgd s x 45 ho base 3 i0 _ 1 8 Try.underlying45 hi0 hz0 hz1 hz2 rfl (by omega) v l.length (natS l) hs hown B A 1 c [.int .i64 (p : Int)] hx hr (fun u hu => natS_one [p] u (by simpa [natS] using hu)) (by simp only [maxLen]; omega) (by omega) hbase ?_
  intro v' w' h1 h2 h3
  refine h v' w' ?_ h2
  unfold OwnG
  rw [natS, List.map_append, List.length_append]
  simpa [natS] using h1
theorem n_new (w : World) (p : Nat) : Reads (w.alloc (.cells #[.int .i64 (p : Int)] 3)) (w.heap.size + 1) 1 (some ⟨w.heap.size, 0, none⟩) 1 [.int .i64 (p : Int)] := Reads.newN w [.int .i64 (p : Int)] 1 1 3 (0, 0) rfl
theorem results_cell_tmp1 {P : Program} {fn : Func} {p q : Tmp} {ty : TypeId} (h : fn.results = #[.cell p ty, .tmp q]) (tmps : Array Value) (w : World) (g : Nat) (t : TypeId) (cs : Array Value) (fr : Nat × Nat) (d : TypeDesc) (v : Value)
    (hp : tmps.getD p undef = .pointer (some ⟨g, 0, none⟩)) (hq : tmps.getD q undef = v) (hg : w.heap[g]? = some (.cells cs t fr))
    (hu : P.underlying ty = some d) (hd : (match d with | .struct _ | .array _ _ => true | _ => false) = true) (hi : (P.info? ty).map (·.size) = some cs.size) :
    (results fn tmps).run P w = .ok (.tuple #[.agg cs, v]) w := by
  have hp' : tmps[p]?.getD undef = .pointer (some ⟨g, 0, none⟩) := by simpa using hp
  have hq' : tmps[q]?.getD undef = v := by simpa using hq
  simp [results, h, hp', hq', asAddr, run_loadVar_row w g t ty cs fr d hg hu hd hi]
theorem gone_len {O t i : Nat} (h0 : 0 < O) : (goneL O t i).length ≤ i := by
  unfold goneL
  have := ceil_le (n := i) h0
  simp
  omega
/-- what the document's Cut comes to -/
def DCutTo (O t Z : Nat) (w : World) (e : Ending) (w' : World) : Prop := ∃ v, e = .returned (.tuple #[.agg (edgeP O t (Z - t)).cs.toArray, v]) ∧ OwnG w' w.heap.size v (goneL O t Z) ∧ Below w.heap.size w w'
set_option maxHeartbeats 8000000 in
theorem dcut_any (Z O t : Nat) (hz : Z ≤ 4096) (ho1 : 16 ≤ O) (ho2 : O ≤ 256) (ht : t ≤ Z) (w : World) : Calls Try.prog 16 #[.int .i64 (Z : Int), .int .i64 (O : Int), .int .i64 (t : Int)] w (DCutTo O t Z w) := by
  obtain ⟨W2, hW2⟩ : ∃ W, W = (w.alloc (.cells zeroP.cs.toArray 38)).alloc (.cells zeroP.cs.toArray 38) := ⟨_, rfl⟩
  have h2 : Below w.heap.size w W2 ∧ W2.heap.size = w.heap.size + 2 ∧ Blk W2 w.heap.size 38 zeroP.cs.toArray ∧ Blk W2 (w.heap.size + 1) 38 zeroP.cs.toArray := by
    rw [hW2]
    exact ⟨(below_alloc w _).alloc (by simp) _, by simp, (Blk.new w _ _).alloc _, blk_two _ _ _ _⟩
  have HW2 := Lib.hid hW2
  have H2 := Lib.hid h2
  clear hW2 h2
  go_enter Try.func16, Try.ntmps16
  go_wp2
  go_loopw [9, 10] (fun lv i wr => ∃ k : Nat, t ≤ k ∧ k ≤ Z ∧ i = .int .i64 k ∧ Blk wr w.heap.size 38 zeroP.cs.toArray ∧ Blk wr (w.heap.size + 1) 38 (edgeP O t (k - t)).cs.toArray ∧ OwnG wr (w.heap.size + 2) lv (goneL O t k) ∧ Below w.heap.size w wr ∧ w.heap.size + 2 ≤ wr.heap.size) (fun _ i _ => Z - (intS i).toNat)
  case atStart =>
    rw [show (Obj.cells #[Value.int IntKind.i64 0, .int .i64 0, .int .i64 0, .int .i64 0] 38) = .cells zeroP.cs.toArray 38 from rfl, ← HW2.out]
    obtain ⟨a, b, c, d⟩ := H2.out
    refine ⟨t, by omega, by omega, rfl, c, ?_, ?_, a, by omega⟩
    · rw [Nat.sub_self, edge_none (.inl rfl)]; exact d
    · have : goneL O t t = [] := by unfold goneL; simp
      rw [this]
      exact World.ownsRow_nil _ _ _ 1
  case round =>
    obtain ⟨k, htk, hk, rfl, hr, he, ho, hb, hz2⟩ := hrel
    obtain ⟨A1, cap, rfl, -⟩ := ho.form
    have HR := Lib.hid hr
    have HE := Lib.hid he
    have HO := Lib.hid ho
    have HB := Lib.hid hb
    have HLL : Hid ((goneL O t k).length ≤ 4096) := Lib.hid (by have := gone_len (O := O) (t := t) (i := k) (by omega); omega)
    clear hr he ho hb
    by_cases hlt : k < Z
    · have dl : decide ((k : Int) < (Z : Int)) = true := decide_eq_true (by omega)
      obtain ⟨ix, hix⟩ : ∃ ix, ix = k / O := ⟨_, rfl⟩
      obtain ⟨av, hav⟩ : ∃ av, av = k % O := ⟨_, rfl⟩
      have hq : ((k : Int)).tdiv (O : Int) = (ix : Int) := by rw [Int.tdiv_eq_ediv_of_nonneg (by omega)]; rw [hix, Int.natCast_ediv]
      have hm : ((k : Int)).tmod (O : Int) = (av : Int) := by rw [Int.tmod_eq_emod_of_nonneg (by omega)]; rw [hav, Int.natCast_emod]
      have hml : av < O := by rw [hav]; exact Nat.mod_lt _ (by omega)
      have hdl : ix ≤ k := by rw [hix]; exact Nat.div_le_self _ _
      have hw2 : IntKind.i64.wrap (ix : Int) = (ix : Int) := wrap_in (by unfold I64; omega)
      have hw3 : IntKind.i64.wrap (av : Int) = (av : Int) := wrap_in (by unfold I64; omega)
      have hwk : IntKind.i64.wrap ((k : Int) + 1) = (k : Int) + 1 := wrap_in (by unfold I64; omega)
      have hne2 : ((O : Int) == 0) = false := by simp; omega
      have hne3 : ¬ O = 0 := by omega
      obtain ⟨m, hmm⟩ : ∃ m, m = ix * O := ⟨_, rfl⟩
      have hle : m ≤ k := by rw [hmm, hix]; exact mul_div_le' _ _
      have hwm : IntKind.i64.wrap ((ix : Int) * (O : Int)) = (m : Int) := by rw [show (ix : Int) * (O : Int) = (m : Int) from by rw [hmm]; simp]; exact wrap_in (by unfold I64; omega)
      have HX := Lib.hid (And.intro hix (And.intro hav hmm))
      by_cases hc : m < t
      · have hdc : decide ((m : Int) < (t : Int)) = true := decide_eq_true (by omega)
        have hc2 : k / O * O < t := by rw [← hix, ← hmm]; exact hc
        have HG := Lib.hid (gone_in (show 0 < O by omega) htk hc2)
        have HS := Lib.hid (edge_step (show 0 < O by omega) htk hc2)
        have hea := edge_at (show 0 < O by omega) htk hc2
        obtain ⟨-, -, -, h4⟩ := edge_in (show 0 < O by omega) htk hc2
        rw [← hix] at HS hea
        rw [← hav] at h4
        obtain ⟨tv, htv⟩ : ∃ tv, tv = t % O := ⟨_, rfl⟩
        rw [← htv] at HS hea h4
        clear hix hav hmm hc2
        by_cases hkt : k = t
        · rw [if_pos hkt] at hea
          have e4 := h4 hkt
          have hk0 : Blk wr (w.heap.size + 1) 38 #[.int .i64 0, .int .i64 0, .int .i64 0, .int .i64 0] := by have := HE.out; rw [hea] at this; exact this
          have c2 : wr.cell? ⟨w.heap.size + 1, 2, none⟩ = some (.int .i64 0) := hk0.cell 2
          have HKT := Lib.hid (And.intro hkt (And.intro e4 hea))
          clear hkt hea h4 e4
          go_wp2_with (have _h := hk0; refine wpList_storeq rfl 38 (.tmp 8) (.tmp 34) rfl (w.heap.size + 1) _ [.int .i64 (ix : Int), .int .i64 (av : Int), .int .i64 0, .int .i64 0] rfl rfl hk0 rfl (by kernel_rfl) (Pc.one _ _ _ _) ?_; clear _h hk0 c2; intro w2 K2 o2 s2; have c2 : w2.cell? ⟨w.heap.size + 1, 2, none⟩ = some (.int .i64 0) := K2.cell 2; have fz := K2.frozen 2)
          have K3 : Blk (w2.setCell ⟨w.heap.size + 1, 2, none⟩ (.int .i64 1)) (w.heap.size + 1) 38 #[.int .i64 (ix : Int), .int .i64 (av : Int), .int .i64 1, .int .i64 0] := K2.set_ 2 _
          have o3 : Only [w.heap.size + 1] wr (w2.setCell ⟨w.heap.size + 1, 2, none⟩ (.int .i64 1)) := o2.setCell (.inl (by simp)) _
          have s3 : (w2.setCell ⟨w.heap.size + 1, 2, none⟩ (.int .i64 1)).heap.size = wr.heap.size := by rw [← s2]; simp [World.setCell]
          obtain ⟨hkt, e4, -⟩ := HKT.out
          have K4 : Blk (w2.setCell ⟨w.heap.size + 1, 2, none⟩ (.int .i64 1)) (w.heap.size + 1) 38 (edgeP O t (k + 1 - t)).cs.toArray := by
            rw [HS.out, ← e4, show k - t + 1 = 1 by omega]
            exact K3
          exact ⟨⟨k + 1, by omega, by omega, by go_num, HR.out.only o3 (by simp), K4, by rw [← HG.out]; exact HO.out.only o3 (by simp), HB.out.trans (o3.below (fun x hx => by simp at hx; omega) HB.out.size), by omega⟩, by simp only [intS]; omega⟩
        · rw [if_neg hkt] at hea
          obtain ⟨d, hd⟩ : ∃ d, d = k - t := ⟨_, rfl⟩
          rw [← hd] at hea
          have hk0 : Blk wr (w.heap.size + 1) 38 #[.int .i64 (ix : Int), .int .i64 (tv : Int), .int .i64 (d : Int), .int .i64 0] := by have := HE.out; rw [← hd, hea] at this; exact this
          have c2 : wr.cell? ⟨w.heap.size + 1, 2, none⟩ = some (.int .i64 (d : Int)) := hk0.cell 2
          have fz : wr.frozen? ⟨w.heap.size + 1, 2, none⟩ = false := hk0.frozen 2
          have hde : ((d : Int) == 0) = false := beq_eq_false_iff_ne.2 (by omega)
          have hwd : IntKind.i64.wrap ((d : Int) + 1) = (d : Int) + 1 := wrap_in (by unfold I64; omega)
          have HK0 := Lib.hid hk0
          have HD := Lib.hid (And.intro hd hea)
          clear hea h4 hk0 hd
          go_wp2
          have K3 : Blk (wr.setCell ⟨w.heap.size + 1, 2, none⟩ (.int .i64 ((d : Int) + 1))) (w.heap.size + 1) 38 #[.int .i64 (ix : Int), .int .i64 (tv : Int), .int .i64 ((d : Int) + 1), .int .i64 0] := HK0.out.set_ 2 _
          have o3 : Only [w.heap.size + 1] wr (wr.setCell ⟨w.heap.size + 1, 2, none⟩ (.int .i64 ((d : Int) + 1))) := (Only.refl _ _).setCell (.inl (by simp)) _
          have s3 : (wr.setCell ⟨w.heap.size + 1, 2, none⟩ (.int .i64 ((d : Int) + 1))).heap.size = wr.heap.size := by simp [World.setCell]
          have K4 : Blk (wr.setCell ⟨w.heap.size + 1, 2, none⟩ (.int .i64 ((d : Int) + 1))) (w.heap.size + 1) 38 (edgeP O t (k + 1 - t)).cs.toArray := by
            rw [HS.out, ← HD.out.1]
            exact K3
          exact ⟨⟨k + 1, by omega, by omega, by go_num, HR.out.only o3 (by simp), K4, by rw [← HG.out]; exact HO.out.only o3 (by simp), HB.out.trans (o3.below (fun x hx => by simp at hx; omega) HB.out.size), by omega⟩, by simp only [intS]; omega⟩
      · have hdc : decide ((m : Int) < (t : Int)) = false := decide_eq_false (by omega)
        have hc2 : t ≤ k / O * O := by rw [← hix, ← hmm]; omega
        have hst := edge_stay (show 0 < O by omega) htk hc2
        have HE2 : Hid (Blk wr (w.heap.size + 1) 38 (edgeP O t (k + 1 - t)).cs.toArray) := Lib.hid (by rw [hst]; exact HE.out)
        by_cases hav0 : av = 0
        · obtain ⟨hg1, hg2⟩ := gone_next (show 0 < O by omega) hc2 (by rw [← hav]; exact hav0)
          rw [← hix] at hg1 hg2
          obtain ⟨l, hl⟩ : ∃ l, l = goneL O t k := ⟨_, rfl⟩
          rw [← hl] at hg1 hg2 HO HLL ⊢
          have HG1 := Lib.hid hg1
          clear hix hav hmm hc2 hst hg1 hl
          rcases List.eq_nil_or_concat l with hl0 | ⟨l', x, hlx⟩ <;> try simp only [List.concat_eq_append] at hlx
          · have hq0 : ((l.length : Int) == 0) = true := by rw [hl0]; rfl
            clear hl0 hg2
            go_wp2_with (refine wpList_app_n rfl (.tmp 52) (.tmp 54) rfl (w.heap.size + 2) (.slice A1 l.length cap) l rfl (HO.out.since (below_alloc wr _)) (wr.heap.size + 1) _ 1 ix rfl (n_new wr ix) (by have := HLL.out; omega) (by simp; omega) ?_; intro v5 W5 h5 g5)
            have o5 : Below (w.heap.size + 2) wr W5 := ((below_alloc wr _).mono (by omega)).grown g5 (by simp; omega) (fun j hj => (World.ownsRow.lt HO.out _ hj).1)
            exact ⟨⟨k + 1, by omega, by omega, by go_num, HR.out.below o5 (by omega), HE2.out.below o5 (by omega), by rw [HG1.out]; exact h5, HB.out.trans (o5.mono (by omega)), Nat.le_trans hz2 o5.size⟩, by simp only [intS]; omega⟩
          · have hnth : l[l'.length]? = some x := by rw [hlx]; simp
            have hlen : l.length = l'.length + 1 := by rw [hlx]; simp
            have hxn : x ≠ ix := hg2 x (by rw [hlx]; simp)
            obtain ⟨g, rfl, -, hg3, -, c⟩ := HO.out.at0 hnth
            obtain ⟨j, hj⟩ : ∃ j, j = l'.length := ⟨_, rfl⟩
            rw [← hj] at c hlen
            have hq0 : ((l.length : Int) == 0) = false := beq_eq_false_iff_ne.2 (by omega)
            have hwl : IntKind.i64.wrap ((l.length : Int) - 1) = (j : Int) := by rw [wrap_in (by have := HLL.out; unfold I64; omega)]; omega
            have hjq : j < l.length := by omega
            have hxe : ((x : Int) == (ix : Int)) = false := beq_eq_false_iff_ne.2 (by omega)
            have hxe2 : ((x : Int) != (ix : Int)) = true := by rw [bne, hxe]; rfl
            clear hg2 hnth hj hlen hlx hg3 hxn
            go_wp2_with (refine wpList_app_n rfl (.tmp 52) (.tmp 54) rfl (w.heap.size + 2) (.slice (some ⟨g, 0, none⟩) l.length cap) l rfl (HO.out.since (below_alloc wr _)) (wr.heap.size + 1) _ 1 ix rfl (n_new wr ix) (by have := HLL.out; omega) (by simp; omega) ?_; intro v5 W5 h5 g5)
            have o5 : Below (w.heap.size + 2) wr W5 := ((below_alloc wr _).mono (by omega)).grown g5 (by simp; omega) (fun j hj => (World.ownsRow.lt HO.out _ hj).1)
            exact ⟨⟨k + 1, by omega, by omega, by go_num, HR.out.below o5 (by omega), HE2.out.below o5 (by omega), by rw [HG1.out]; exact h5, HB.out.trans (o5.mono (by omega)), Nat.le_trans hz2 o5.size⟩, by simp only [intS]; omega⟩
        · obtain ⟨l, hg1, hg2⟩ := gone_last (show 0 < O by omega) hc2 (by rw [← hav]; exact hav0)
          rw [← hix] at hg1
          have hnth : (goneL O t k)[l.length]? = some ix := by rw [hg1]; simp
          have hlen : (goneL O t k).length = l.length + 1 := by rw [hg1]; simp
          obtain ⟨g, rfl, -, hg3, -, c⟩ := HO.out.at0 hnth
          obtain ⟨j, hj⟩ : ∃ j, j = l.length := ⟨_, rfl⟩
          rw [← hj] at c hlen
          obtain ⟨q, hqq⟩ : ∃ q, q = (goneL O t k).length := ⟨_, rfl⟩
          rw [← hqq] at hlen ⊢
          have hq0 : ((q : Int) == 0) = false := beq_eq_false_iff_ne.2 (by omega)
          have hwl : IntKind.i64.wrap ((q : Int) - 1) = (j : Int) := by rw [wrap_in (by have := HLL.out; unfold I64; omega)]; omega
          have hjq : j < q := by omega
          have HG1 := Lib.hid (And.intro hg2 hqq)
          clear hix hav hmm hc2 hst hg1 hg2 hnth hj hlen hqq
          go_wp2
          exact ⟨⟨k + 1, by omega, by omega, by go_num, HR.out, HE2.out, by rw [HG1.out.1, HG1.out.2]; exact HO.out, HB.out, by omega⟩, by simp only [intS]; omega⟩
    · obtain rfl : k = Z := by omega
      have dl : decide ((k : Int) < (k : Int)) = false := decide_eq_false (by omega)
      obtain ⟨e, he⟩ : ∃ e, e = edgeP O t (k - t) := ⟨_, rfl⟩
      rw [← he] at HE
      have c0 : wr.cell? ⟨w.heap.size + 1, 0, none⟩ = some (.int .i64 (e.ix : Int)) := HE.out.cell 0
      have c1 : wr.cell? ⟨w.heap.size + 1, 1, none⟩ = some (.int .i64 (e.a : Int)) := HE.out.cell 1
      have c2 : wr.cell? ⟨w.heap.size + 1, 2, none⟩ = some (.int .i64 (e.ln : Int)) := HE.out.cell 2
      have c3 : wr.cell? ⟨w.heap.size + 1, 3, none⟩ = some (.int .i64 (e.fr : Int)) := HE.out.cell 3
      have hr := HR.out
      have HH := Lib.hid he
      clear he
      go_wp2_with (have _h := hr; refine wpList_storeq rfl 38 (.tmp 6) (.tmp 56) rfl w.heap.size _ [.int .i64 (e.ix : Int), .int .i64 (e.a : Int), .int .i64 (e.ln : Int), .int .i64 (e.fr : Int)] rfl rfl hr rfl (by kernel_rfl) (Pc.one _ _ _ _) ?_; clear _h hr c0 c1 c2 c3; intro w2 K2 o2 s2)
      refine bodyPost_ret (results_cell_tmp1 rfl _ _ w.heap.size 38 _ (0, 0) _ _ rfl rfl K2 Try.underlying38 rfl (by kernel_rfl)) rfl ?_
      refine ⟨_, by rw [← HH.out]; rfl, ?_, HB.out.trans (o2.below (fun x hx => by simp at hx; omega) HB.out.size)⟩
      exact row_weaken (HO.out.only o2 (by simp)) (by omega)
end Go.Proofs.Ytjnkfpnjdnknnaa
