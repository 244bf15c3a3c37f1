/-
  The law SnapSees, walked and said: for any object and any snapshot it returns true, and they read as they did. No condition.
-/
import Derived.Test.YtjepfeagbiceoaaQx
import Derived.Test.YtjepfeagbiceoaaRsu
import Derived.Test.YtjepfeagbiceoaaRgd
import Derived.Test.YtjepfeagbiceoaaRat
import Derived.Test.YtjepfeagbiceoaaRsm
import Derived.Test.YtjepfeagbiceoaaRp
import Derived.Test.YtjepfeagbiceoaaRdAll
namespace Go.Proofs.Ytjepfeagbiceoaa
open Go.ChangeShapes Go.WideShapes Go.ChangeAt Go.RowKit Go.Deep
set_option linter.unusedSimpArgs false
set_option linter.unusedVariables false
instance : Inhabited CA := ⟨⟨[], [], none, 0, none, 0⟩⟩
set_option maxRecDepth 100000 in
set_option maxHeartbeats 4000000 in
theorem ca_of {H : Type} {enc : TypeId × Value → H} {W : World} {n : Nat} {cs : List Value} {y : DataW H × List MemPlace} (h : DataW.trod enc Try.prog W 0 (fun _ => true) true n 78 cs = some y) (hl : cs.length = 2) : ∃ s : CA, cs = s.cells ∧ s.R W := by
  obtain ⟨ys, n', _, _, hlen, hyl, hf⟩ := DataW.trod_struct Try.underlying78 h
  have f0 : DataW.trod enc Try.prog W 0 (fun _ => true) true n' 26 (List.take (Try.prog.cellsOf 26) (List.drop 0 cs)) = ys[0]? := hf 0 _ rfl
  have f1 : DataW.trod enc Try.prog W 0 (fun _ => true) true n' 22 (List.take (Try.prog.cellsOf 22) (List.drop 1 cs)) = ys[1]? := hf 1 _ rfl
  have c1 : Try.prog.cellsOf 26 = 1 := by kernel_rfl
  have c2 : Try.prog.cellsOf 22 = 1 := by kernel_rfl
  rw [c1] at f0
  rw [c2] at f1
  rw [take1 (by omega)] at f0 f1
  have g0 := f0.trans (List.getElem?_eq_getElem (by rw [hyl]; decide))
  have g1 := f1.trans (List.getElem?_eq_getElem (by rw [hyl]; decide))
  obtain ⟨A0, m0, d0, l0, e0, hc0, hb0, hi0⟩ := ints_of g0
  obtain ⟨A1, m1, d1, l1, e1, hc1, hb1⟩ := bytes_of g1
  have hl0 : l0.length = m0 := by have := hb0.1; simpa [i64s] using this
  have hl1 := hb1.len
  subst hl0 hl1
  refine ⟨⟨l0, l1, A0, d0, A1, d1⟩, ?_, ⟨hb0, hb1, hi0, by simp only; omega, by simp only; omega, by simp only; omega, by simp only; omega⟩⟩
  match cs, hl, e0, e1 with
  | [a0, a1], _, e0, e1 =>
    simp at e0 e1
    subst e0 e1
    rfl
set_option maxRecDepth 100000 in
theorem cas_of {H : Type} {enc : TypeId × Value → H} {W : World} {n : Nat} {v : Value} {y : DataW H × List MemPlace} (h : DataW.trod enc Try.prog W 0 (fun _ => true) true n 23 [v] = some y) :
    ∃ (A : Option Addr) (c : Nat) (l : List CA), v = .slice A l.length c ∧ (l.length ≤ c ∧ c ≤ 9223372036854775807) ∧ Reads W W.heap.size 2 A l.length (l.flatMap CA.cells) ∧ ∀ s ∈ l, s.R W := by
  rcases open_slice Try.underlying23 h with ⟨hcs, _⟩ | ⟨a, len, cap, m, n', D, Pl, hcs, _, hl, hm, hmm, _, hr⟩
  · simp only [List.cons.injEq, and_true] at hcs
    subst hcs
    exact ⟨none, 0, [], rfl, ⟨by simp, by omega⟩, Reads.none_, fun s hs => by cases hs⟩
  · simp only [List.cons.injEq, and_true] at hcs
    subst hcs
    simp only [if_true] at hmm
    unfold maxLen at hm
    have c6 : Try.prog.cellsOf 78 = 2 := by kernel_rfl
    have hex : ∀ i, i < len → ∃ s : CA, (∀ j v, s.cells[j]? = some v → W.cell? (a.add (i * 2 + j)) = some v) ∧ s.R W := by
      intro i hi
      obtain ⟨cs', hc, ht'⟩ := hr i (by omega)
      rw [c6] at hc
      obtain ⟨_, hcl, hat⟩ := World.cells?_some hc
      obtain ⟨s, rfl, hs⟩ := ca_of ht' (by omega)
      refine ⟨s, fun j v hj => ?_, hs⟩
      have hj6 : j < 2 := by have := (List.getElem?_eq_some_iff.1 hj).1; rwa [CA.cells_len] at this
      have := hat j hj6
      rw [← Go.Deep.add_add, this, hj]
    obtain ⟨f, hf⟩ := choose_lt_x hex
    have hat : ∀ k, k < len → ((List.range len).map f)[k]? = some (f k) := fun k hk => by rw [List.getElem?_map, List.getElem?_range hk]; rfl
    have hfl : (((List.range len).map f).flatMap CA.cells).length = len * 2 := by
      rw [flat_len CA.cells_len]
      simp
    refine ⟨some a, cap, (List.range len).map f, by simp, ⟨by simpa using hl, by omega⟩, ⟨by simpa using hfl, fun hn => ⟨a, rfl, ?_, fun j u hu => ?_⟩⟩, fun s hs => ?_⟩
    · have := lt_of_cell_x ((hf 0 (by simpa using hn)).1 0 _ rfl)
      rwa [block_of_add] at this
    · have hj : j < len * 2 := by
        rcases Nat.lt_or_ge j (len * 2) with h | h
        · exact h
        · rw [List.getElem?_eq_none (by rw [hfl]; exact h)] at hu; cases hu
      have hk : j / 2 < len := by omega
      have h5 := flat_at CA.cells 2 CA.cells_len _ (j / 2) (j % 2) (f (j / 2)) (hat (j / 2) hk) (by omega)
      rw [show j / 2 * 2 + j % 2 = j by omega, hu] at h5
      have := (hf (j / 2) hk).1 (j % 2) u h5.symm
      rwa [show j / 2 * 2 + j % 2 = j by omega] at this
    · obtain ⟨i, hi, rfl⟩ := List.mem_map.1 hs
      exact (hf i (List.mem_range.1 hi)).2
set_option maxRecDepth 100000 in
set_option maxHeartbeats 4000000 in
theorem oa_of {H : Type} {enc : TypeId × Value → H} {W : World} {n : Nat} {cs : List Value} {y : DataW H × List MemPlace} (h : DataW.trod enc Try.prog W 0 (fun _ => true) true n 25 cs = some y) (hl : cs.length = 4) : ∃ s : OA, cs.toArray = s.cs ∧ s.R W := by
  obtain ⟨ys, n', _, _, hlen, hyl, hf⟩ := DataW.trod_struct Try.underlying25 h
  have f0 : DataW.trod enc Try.prog W 0 (fun _ => true) true n' 4 (List.take (Try.prog.cellsOf 4) (List.drop 0 cs)) = ys[0]? := hf 0 _ rfl
  have f1 : DataW.trod enc Try.prog W 0 (fun _ => true) true n' 22 (List.take (Try.prog.cellsOf 22) (List.drop 1 cs)) = ys[1]? := hf 1 _ rfl
  have f2 : DataW.trod enc Try.prog W 0 (fun _ => true) true n' 3 (List.take (Try.prog.cellsOf 3) (List.drop 2 cs)) = ys[2]? := hf 2 _ rfl
  have f3 : DataW.trod enc Try.prog W 0 (fun _ => true) true n' 23 (List.take (Try.prog.cellsOf 23) (List.drop 3 cs)) = ys[3]? := hf 3 _ rfl
  have c0 : Try.prog.cellsOf 4 = 1 := by kernel_rfl
  have c1 : Try.prog.cellsOf 22 = 1 := by kernel_rfl
  have c2 : Try.prog.cellsOf 3 = 1 := by kernel_rfl
  have c3 : Try.prog.cellsOf 23 = 1 := by kernel_rfl
  rw [c0] at f0
  rw [c1] at f1
  rw [c2] at f2
  rw [c3] at f3
  rw [take1 (by omega)] at f0 f1 f2 f3
  have g0 := f0.trans (List.getElem?_eq_getElem (by rw [hyl]; decide))
  have g1 := f1.trans (List.getElem?_eq_getElem (by rw [hyl]; decide))
  have g2 := f2.trans (List.getElem?_eq_getElem (by rw [hyl]; decide))
  have g3 := f3.trans (List.getElem?_eq_getElem (by rw [hyl]; decide))
  obtain ⟨t0, e0, _⟩ := DataW.trod_bool Try.underlying4 g0
  obtain ⟨A1, m1, d1, l1, e1, hc1, hb1⟩ := bytes_of g1
  obtain ⟨n2, e2, _, w2⟩ := DataW.trod_int Try.underlying3 g2
  obtain ⟨A3, d3, l3, e3, hc3, hr3, hcl3⟩ := cas_of g3
  have hl1 := hb1.len
  subst hl1
  simp [Lit.wf, IntKind.min, IntKind.max, IntKind.bits, IntKind.signed] at w2
  refine ⟨⟨t0, l1, A1, d1, n2, A3, d3, l3⟩, ?_, ⟨hb1, hr3, hcl3, by simp only; omega, by simp only; omega, by simp only; omega, by simp only; omega, by simp only; omega, by simp only; omega⟩⟩
  match cs, hl, e0, e1, e2, e3 with
  | [a0, a1, a2, a3], _, e0, e1, e2, e3 =>
    simp at e0 e1 e2 e3
    subst e0 e1 e2 e3
    rfl
set_option maxRecDepth 100000 in
theorem open_oa {H : Type} {enc : TypeId × Value → H} {W : World} {base : Nat} {v : Value} {d : DataW H} {p : List MemPlace} (hval : Value.okWide Try.prog W .any base 25 v)
    (h : DataW.Trod enc Try.prog W 0 (fun _ => true) true 25 v d p) : ∃ x : OA, v = .agg x.cs ∧ x.R W := by
  obtain ⟨cs, rfl, hsz⟩ := okWide_struct Try.underlying25 hval
  obtain ⟨fuel, hf⟩ := h
  have h4 : Try.prog.cellsOf 25 = 4 := by kernel_rfl
  rw [h4] at hsz
  obtain ⟨l, rfl⟩ : ∃ l : List Value, cs = l.toArray := ⟨cs.toList, by simp⟩
  obtain ⟨s, e, hR⟩ := oa_of (cs := l) hf (by simpa using hsz)
  exact ⟨s, by rw [e], hR⟩
set_option maxRecDepth 100000 in
theorem open_pa {H : Type} {enc : TypeId × Value → H} {W : World} {base : Nat} {v : Value} {d : DataW H} {p : List MemPlace} (hval : Value.okWide Try.prog W .any base 30 v)
    (h : DataW.Trod enc Try.prog W 0 (fun _ => true) true 30 v d p) : ∃ x : PA, v = .agg x.cs ∧ x.R W := by
  obtain ⟨cs, rfl, hsz⟩ := okWide_struct Try.underlying30 hval
  obtain ⟨fuel, hf⟩ := h
  have h4 : Try.prog.cellsOf 30 = 6 := by kernel_rfl
  rw [h4] at hsz
  obtain ⟨l, rfl⟩ : ∃ l : List Value, cs = l.toArray := ⟨cs.toList, by simp⟩
  obtain ⟨s, e, hR⟩ := pa_of (cs := l) hf (by simpa using hsz)
  exact ⟨s, by rw [e]; rfl, hR⟩
end Go.Proofs.Ytjepfeagbiceoaa
namespace Go.Proofs.Ytjepfeagbiceoaa
open Go.RowKit Go.BigFrame
set_option linter.unusedSimpArgs false
set_option linter.unusedVariables false
set_option maxRecDepth 100000
theorem rat_neg {w : World} (o : OA) (s : Int) (h : o.R w) (hs0 : s < 0) : Calls Try.prog 28 #[.agg o.cs, .int .i64 s] w fun e w' => e = .returned (.tuple #[.slice none 0 0, .bool false]) ∧ Below w.heap.size w w' := by
  have hd : decide (s < (0 : Int)) = true := decide_eq_true hs0
  have hcs : o.cs = #[.bool o.th, .slice o.D o.dt.length o.cd, .int .i64 o.sq, .slice o.C o.cl.length o.cc] := rfl
  rw [hcs]
  go_enter Try.func28, Try.ntmps28
  go_wp2
  go_ret2
  exact ⟨rfl, below_alloc _ _⟩
/-- what both tell of a snapshot -/
def both (o : OV) (s : Int) : Option (List Nat) := if 0 ≤ s then atO o s else none
theorem rat_both {w : World} (o : OA) (s : Int) (h : o.R w) (hS : o.Sm) (hg : Good o.v) : Calls Try.prog 28 #[.agg o.cs, .int .i64 s] w (RAtTo w (both o.v s)) := by
  unfold both
  by_cases hs : 0 ≤ s
  · rw [if_pos hs]
    exact rat_any o s h hS hg hs
  · rw [if_neg hs]
    refine (rat_neg o s h (by omega)).mono ?_
    rintro e w' ⟨rfl, hb⟩
    exact ⟨hb, none, 0, rfl, Reads.none_, fun b hb => by cases hb⟩
theorem putV_len (o : OA) (hS : o.Sm) (hg : Good o.v) : (putV o.v).length ≤ 2000000 := by
  have h1 : o.cl.length ≤ 16 := by have := hg.cn; simpa [OA.v, OA.vs] using this
  have h2 : o.dt.length ≤ 256 := hg.dt
  have h3 := cls_len o.cl hS.cl
  have e : putV o.v = [if o.th then 1 else 0] ++ bytesB o.dt ++ numB o.sq ++ numB (o.cl.map CA.v).length ++ (o.cl.map CA.v).flatMap clT := rfl
  rw [e, List.flatMap_map]
  simp only [List.length_append, bytesB_len, numB_len, List.length_cons, List.length_nil]
  omega
theorem putV_lt {o : OA} {w : World} (h : o.R w) : ∀ b ∈ putV o.v, b < 256 := by
  intro b hb
  have e : putV o.v = [if o.th then 1 else 0] ++ bytesB o.dt ++ numB o.sq ++ numB (o.cl.map CA.v).length ++ (o.cl.map CA.v).flatMap clT := rfl
  rw [e] at hb
  simp only [List.mem_append] at hb
  rcases hb with (((hb | hb) | hb) | hb) | hb
  · simp at hb
    split at hb <;> omega
  · exact bytesB_lt h.dt.2 b hb
  · exact numB_lt _ b hb
  · exact numB_lt _ b hb
  · obtain ⟨c, hc, hb⟩ := List.mem_flatMap.1 hb
    obtain ⟨c', hc', rfl⟩ := List.mem_map.1 hc
    exact clT_lt (h.cl c' hc').dt.2 b hb
theorem wide9 {o : OA} {w : World} (h : o.R w) (hS : o.Sm) : Wide9 o.v := by
  refine ⟨⟨h.q1, h.q2⟩, fun c hc => ?_⟩
  obtain ⟨c', hc', rfl⟩ := List.mem_map.1 hc
  exact ⟨(hS.cl c' hc').1, (h.cl c' hc').i1, (h.cl c' hc').dt.2⟩
/-- what the program's At comes to, in one -/
theorem AtTo.one {w w' : World} {o : OV} {s : Int} {e : Ending} (h : AtTo w o s e w') : Below w.heap.size w w' ∧ ∃ (v : Value) (x : Option (List Nat)), e = .returned (.tuple #[v, .bool x.isSome]) ∧ Own w' w.heap.size v (x.getD []).length (x.getD []) ∧ (∀ b ∈ x.getD [], b < 256) ∧ (Good o → x = both o s) ∧ (¬ Good o → x = none) := by
  obtain ⟨hb, ⟨d, v, g, hs, ha, he, ho, hlt⟩ | ⟨hn, he⟩⟩ := h
  · exact ⟨hb, v, some d, he, ho, hlt, fun _ => by unfold both; rw [if_pos hs, ha], fun hg => absurd g hg⟩
  · refine ⟨hb, _, none, he, Own.nil _ _, fun b hb => (by cases hb), fun g => ?_, fun _ => rfl⟩
    unfold both
    by_cases hs : 0 ≤ s
    · rw [if_pos hs, hn g hs]
    · rw [if_neg hs]
theorem both_len {o : OV} (s : Int) (hg : Good o) : ((both o s).getD []).length ≤ 256 := by
  unfold both
  split
  · cases e : atO o s with
    | none => simp
    | some d => exact atO_len e hg
  · simp
theorem OA.N.off {q : OA} {w w' : World} {base : Nat} {F : List Nat} (h : q.N w base) (ho : Only F w w') (hF : ∀ k ∈ F, k < base) : q.N w' base :=
  OA.P.of h (fun k hk => ho.block k (OA.P.dU h k hk).2.1 (fun hm => by have := hF k hm; have := (OA.P.dU h k hk).1; omega))
    (fun k hk => ho.block k (OA.P.cU h k hk).2.1 (fun hm => by have := hF k hm; have := (OA.P.cU h k hk).1; omega))
    fun c hc => ⟨fun k hk => ho.block k ((OA.P.cl h c hc).sU k hk).2.1 (fun hm => by have := hF k hm; have := ((OA.P.cl h c hc).sU k hk).1; omega), fun k hk => ho.block k ((OA.P.cl h c hc).dU k hk).2.1 (fun hm => by have := hF k hm; have := ((OA.P.cl h c hc).dU k hk).1; omega)⟩
theorem plain_one {w : World} (o : OA) (h : o.R w) (hS : o.Sm) : Calls Try.prog 18 #[.agg o.cs] w fun e w' => ∃ q : OA, e = .returned (.agg q.cs) ∧ q.v = o.v ∧ q.R w' ∧ Below w.heap.size w w' :=
  (plain_any o h hS).mono fun e w' ⟨C', c', he, hc, hb⟩ => ⟨{o with C := C', cc := c'}, he, rfl, PlainTo.reads h hc hb, hb⟩
set_option maxHeartbeats 8000000 in
theorem snapSees_walk {w : World} (o : OA) (ho : o.R w) (s : Int) :
    Calls Try.prog 4 #[.agg o.cs, .int .i64 s] w fun e w' => e = .returned (.bool true) ∧ Below w.heap.size w w' := by
  obtain ⟨w0, hw0⟩ : ∃ w0, w0 = w.alloc (.cells #[.bool o.th, .slice o.D o.dt.length o.cd, .int .i64 o.sq, .slice o.C o.cl.length o.cc] 25) := ⟨_, rfl⟩
  have hbel : Below w.heap.size w w0 := by rw [hw0]; exact below_alloc w _
  have b0 : Blk w0 w.heap.size 25 #[.bool o.th, .slice o.D o.dt.length o.cd, .int .i64 o.sq, .slice o.C o.cl.length o.cc] := by rw [hw0]; exact Blk.new w _ _
  have HWE := Lib.hid hw0
  have H0 : Hid (∀ W, Below w0.heap.size w0 W → Blk W w.heap.size 25 #[.bool o.th, .slice o.D o.dt.length o.cd, .int .i64 o.sq, .slice o.C o.cl.length o.cc] ∧ o.R W ∧ Below w.heap.size w W) := Lib.hid fun W hb =>
    ⟨b0.of (hb.block _ b0.lt), (ho.since hbel).since hb, hbel.trans (hb.mono hbel.size)⟩
  have hos : o.cs = #[.bool o.th, .slice o.D o.dt.length o.cd, .int .i64 o.sq, .slice o.C o.cl.length o.cc] := rfl
  rw [hos]
  clear hos hw0 hbel b0 ho
  go_enter Try.func4, Try.ntmps4
  go_upto_region 1 with (fail)
  rw [← HWE.out]
  clear HWE
  go_wp2_with fail
  refine (alive_any w0).mono ?_
  rintro e w1 ⟨rfl, hb1⟩
  have HB1 := Lib.hid hb1
  have K0 := (H0.out w1 hb1).1
  have HLG := Lib.hid (large_any o (H0.out w1 hb1).2.1)
  unfold OA.cs at HLG
  clear hb1
  go_wp2_with (have _h := K0; refine wpList_loadq rfl 25 (.tmp 2) rfl w.heap.size [.bool o.th, .slice o.D o.dt.length o.cd, .int .i64 o.sq, .slice o.C o.cl.length o.cc] _ rfl K0 Try.underlying25 rfl (by kernel_rfl) ?_; clear _h K0)
  refine HLG.out.mono ?_
  rintro e w2 ⟨rfl | ⟨rfl, hLm⟩, hb2⟩
  · have HE := Lib.hid (H0.out w2 (HB1.out.trans (hb2.mono HB1.out.size))).2.2
    clear hb2 HLG
    go_wp2
    go_ret
    exact ⟨rfl, HE.out⟩
  have HB2 := Lib.hid (HB1.out.trans (hb2.mono HB1.out.size))
  have HLm := Lib.hid hLm
  have K0 := (H0.out w2 HB2.out).1
  have HPG := Lib.hid (program_any o (H0.out w2 HB2.out).2.1 HLm.out)
  unfold OA.cs at HPG
  clear hb2 hLm HLG HB1
  go_wp2_with (have _h := K0; refine wpList_loadq rfl 25 (.tmp 2) rfl w.heap.size [.bool o.th, .slice o.D o.dt.length o.cd, .int .i64 o.sq, .slice o.C o.cl.length o.cc] _ rfl K0 Try.underlying25 rfl (by kernel_rfl) ?_; clear _h K0)
  refine HPG.out.mono ?_
  rintro e w4 ⟨p, hpv, hpS, hpN, rfl, hb4⟩
  have hps : p.cs = #[.bool p.th, .slice p.D p.dt.length p.cd, .int .i64 p.sq, .slice p.C p.cl.length p.cc] := rfl
  rw [hps]
  obtain ⟨w5, hw5⟩ : ∃ w5, w5 = w4.alloc (.cells #[.bool p.th, .slice p.D p.dt.length p.cd, .int .i64 p.sq, .slice p.C p.cl.length p.cc] 36) := ⟨_, rfl⟩
  have hb45 : Below w4.heap.size w4 w5 := by rw [hw5]; exact below_alloc w4 _
  have KP : Blk w5 w4.heap.size 36 #[.bool p.th, .slice p.D p.dt.length p.cd, .int .i64 p.sq, .slice p.C p.cl.length p.cc] := by rw [hw5]; exact Blk.new w4 _ _
  obtain ⟨gp, hgp⟩ : ∃ gp, gp = w4.heap.size := ⟨_, rfl⟩
  rw [← hgp] at KP
  have HB5 := Lib.hid ((HB2.out.trans (hb4.mono HB2.out.size)).trans (hb45.mono (by have := HB2.out.size; have := hb4.size; omega)))
  have HP5 : Hid (∀ W, Below w5.heap.size w5 W → Blk W gp 36 #[.bool p.th, .slice p.D p.dt.length p.cd, .int .i64 p.sq, .slice p.C p.cl.length p.cc] ∧ p.R W ∧ Blk W w.heap.size 25 #[.bool o.th, .slice o.D o.dt.length o.cd, .int .i64 o.sq, .slice o.C o.cl.length o.cc] ∧ o.R W ∧ Below w.heap.size w W) := Lib.hid fun W hb => by
    have h1 := H0.out W (HB5.out.trans (hb.mono HB5.out.size))
    exact ⟨KP.of (hb.block _ KP.lt), (hpN.R.since hb45).since hb, h1.1, h1.2.1, h1.2.2⟩
  have HPV := Lib.hid (And.intro hpv (And.intro hpS HLm.out.Sm))
  have HW5 := Lib.hid (And.intro hw5 hgp)
  have HGD := Lib.hid (rgood_any o (HP5.out w5 (Below.refl _ _)).2.2.2.1 HLm.out.Sm)
  unfold OA.cs at HGD
  have K0 := (HP5.out w5 (Below.refl _ _)).2.2.1
  clear hps hb45 hw5 hgp hpN hb4 HPG hpv hpS KP
  go_upto_region 6 with (fail)
  rw [← HW5.out.1, ← HW5.out.2]
  clear HW5
  go_wp2_with (have _h := K0; refine wpList_loadq rfl 25 (.tmp 2) rfl w.heap.size [.bool o.th, .slice o.D o.dt.length o.cd, .int .i64 o.sq, .slice o.C o.cl.length o.cc] _ rfl K0 Try.underlying25 rfl (by kernel_rfl) ?_; clear _h K0)
  refine HGD.out.mono ?_
  rintro e w6 ⟨gb, rfl, hgb, hb6⟩
  have HB6 := Lib.hid hb6
  have HGB := Lib.hid hgb
  have KP := (HP5.out w6 hb6).1
  have HAT := Lib.hid (sat_any (w := w6) p s (HP5.out w6 hb6).2.1 HPV.out.2.1)
  unfold OA.cs at HAT
  clear hb6 hgb HGD
  go_wp2_with (have _h := KP; refine wpList_loadq rfl 36 (.tmp 5) rfl gp [.bool p.th, .slice p.D p.dt.length p.cd, .int .i64 p.sq, .slice p.C p.cl.length p.cc] _ rfl KP Try.underlying36 rfl (by kernel_rfl) ?_; clear _h KP)
  refine HAT.out.mono ?_
  rintro e w7 hat
  obtain ⟨hb7, vb, h, rfl, hob, hblt, hbG, hbN⟩ := hat.one
  rw [HPV.out.1] at hbG hbN
  obtain ⟨Ab, cb, rfl, -⟩ := hob.form
  have HB7 := Lib.hid (HB6.out.trans (hb7.mono HB6.out.size))
  have HS7 := Lib.hid hb7.size
  have HOB := Lib.hid (And.intro hob (And.intro hblt (And.intro hbG hbN)))
  have KP := (HP5.out w7 HB7.out).1
  have HPU := Lib.hid (sput_any (w := w7) p (HP5.out w7 HB7.out).2.1 HPV.out.2.1)
  unfold OA.cs at HPU
  clear hat hb7 hob hblt hbG hbN HAT
  go_wp2_with (have _h := KP; refine wpList_loadq rfl 36 (.tmp 5) rfl gp [.bool p.th, .slice p.D p.dt.length p.cd, .int .i64 p.sq, .slice p.C p.cl.length p.cc] _ rfl KP Try.underlying36 rfl (by kernel_rfl) ?_; clear _h KP)
  refine HPU.out.mono ?_
  rintro e w8 ⟨hb8, hput⟩
  have HB8 := Lib.hid (HB7.out.trans (hb8.mono HB7.out.size))
  have HS8 := Lib.hid hb8.size
  have HOB8 := Lib.hid (HOB.out.1.below hb8)
  have hth : p.th = o.th := congrArg OV.th HPV.out.1
  have hcl : p.cl.length = o.cl.length := by have := congrArg (fun v => v.cl.length) HPV.out.1; simpa [OA.v, OA.vs] using this
  have HQ8 : Hid (∀ W, Below w8.heap.size w8 W → (W.cell? ⟨gp, 0, none⟩ = some (.bool p.th) ∧ W.cell? ⟨gp, 1, none⟩ = some (.slice p.D p.dt.length p.cd) ∧ W.cell? ⟨gp, 2, none⟩ = some (.int .i64 p.sq) ∧ W.cell? ⟨gp, 3, none⟩ = some (.slice p.C p.cl.length p.cc)) ∧ W.cell? ⟨w.heap.size, 0, none⟩ = some (.bool o.th) ∧ W.cell? ⟨w.heap.size, 3, none⟩ = some (.slice o.C o.cl.length o.cc)) := Lib.hid fun W hb => by
    have h1 := HP5.out W (HB8.out.trans (hb.mono HB8.out.size))
    exact ⟨⟨h1.1.cell 0, h1.1.cell 1, h1.1.cell 2, h1.1.cell 3⟩, h1.2.2.1.cell 0, h1.2.2.1.cell 3⟩
  have HGD8 : Hid (∀ W, Below w8.heap.size w8 W → Calls Try.prog 25 #[.agg #[.bool p.th, .slice p.D p.dt.length p.cd, .int .i64 p.sq, .slice p.C p.cl.length p.cc]] W (GoodTo W p.v)) := Lib.hid fun W hb => sgood_any p (HP5.out W (HB8.out.trans (hb.mono HB8.out.size))).2.1
  have hem := fun W => empty_any (w := W) p (by have := HPV.out.2.1.cn; omega)
  unfold OA.cs at hem
  have hem2 : ∀ W, Calls Try.prog 26 #[.agg #[.bool p.th, .slice p.D p.dt.length p.cd, .int .i64 p.sq, .slice p.C p.cl.length p.cc]] W fun e w' => e = .returned (.bool (!o.th && decide (o.cl.length = 0))) ∧ Below W.heap.size W w' := fun W => (hem W).mono fun e w' h => ⟨by rw [h.1, hth, hcl], h.2⟩
  have HEM := Lib.hid hem2
  have HHC := Lib.hid (And.intro hth hcl)
  clear hb8 HPU hem hem2 hth hcl
  by_cases hgd : Good o.v
  · obtain rfl : gb = true := HGB.out.2 hgd
    have HG := Lib.hid hgd
    rw [HPV.out.1] at hput
    obtain ⟨-, vt, rfl, hot⟩ : Good o.v ∧ ∃ v, _ = _ ∧ _ := hput.resolve_right (fun h => h.1 hgd)
    obtain ⟨At, ct, rfl, -⟩ := hot.form
    have HOT := Lib.hid hot
    clear hot hput hgd
    go_wp2
    have hS : Below w8.heap.size w8 w8.drew := below_drew9 w8
    refine any_beginL (fun W => Below w8.heap.size w8 W) 99 (by kernel_rfl) ?_
    refine S_take (i := 0) (v := .agg #[.bool p.th, .slice p.D p.dt.length p.cd, .int .i64 p.sq, .slice p.C p.cl.length p.cc]) rfl rfl (by kernel_rfl) (by kernel_rfl) (by kernel_rfl) (fun _ _ _ h => h) (Or.inl ⟨by rfl, fun W hw => by obtain ⟨⟨z0, z1, z2, z3⟩, z4, z5⟩ := HQ8.out W hw; go_simp⟩) hS ?_
    simp only [Act.put, List.getElem_toArray, List.getElem_cons_succ, List.getElem_cons_zero, List.setIfInBounds_toArray, List.set_cons_zero, List.set_cons_succ]
    refine S_take (i := 2) (v := .bool true) rfl rfl (by kernel_rfl) (by kernel_rfl) (by kernel_rfl) (fun _ _ _ h => h) (Or.inl ⟨by rfl, fun W hw => by go_simp⟩) hS ?_
    simp only [Act.put, List.getElem_toArray, List.getElem_cons_succ, List.getElem_cons_zero, List.setIfInBounds_toArray, List.set_cons_zero, List.set_cons_succ]
    refine L_one (j := 1) (by kernel_rfl) rfl (by rfl) ?_
    simp only [Act.put, List.getElem_toArray, List.getElem_cons_succ, List.getElem_cons_zero, List.setIfInBounds_toArray, List.set_cons_zero, List.set_cons_succ]
    refine wp_called (by go_simp) (HGD8.out _ hS) ?_
    rintro e W1 ⟨b9, rfl, hb9, hbl9⟩
    rw [HPV.out.1] at hb9
    obtain rfl : b9 = true := hb9.2 HG.out
    clear hb9
    have hS : Below w8.heap.size w8 W1 := hS.trans (hbl9.mono hS.size)
    refine ⟨_, rfl, hS, ?_⟩
    simp only [Act.put, List.getElem_toArray, List.getElem_cons_succ, List.getElem_cons_zero, List.setIfInBounds_toArray, List.set_cons_zero, List.set_cons_succ]
    refine S_take (i := 3) (v := .bool false) rfl rfl (by kernel_rfl) (by kernel_rfl) (by kernel_rfl) (fun _ _ _ h => h) (Or.inl ⟨by rfl, fun W hw => by go_simp⟩) hS ?_
    simp only [Act.put, List.getElem_toArray, List.getElem_cons_succ, List.getElem_cons_zero, List.setIfInBounds_toArray, List.set_cons_zero, List.set_cons_succ]
    refine S_take (i := 4) (v := .bool false) rfl rfl (by kernel_rfl) (by kernel_rfl) (by kernel_rfl) (fun _ _ _ h => h) (Or.inl ⟨by rfl, fun W hw => by go_simp⟩) hS ?_
    simp only [Act.put, List.getElem_toArray, List.getElem_cons_succ, List.getElem_cons_zero, List.setIfInBounds_toArray, List.set_cons_zero, List.set_cons_succ]
    refine S_take (i := 5) (v := .agg #[.bool p.th, .slice p.D p.dt.length p.cd, .int .i64 p.sq, .slice p.C p.cl.length p.cc]) rfl rfl (by kernel_rfl) (by kernel_rfl) (by kernel_rfl) (fun _ _ _ h => h) (Or.inl ⟨by rfl, fun W hw => by obtain ⟨⟨z0, z1, z2, z3⟩, z4, z5⟩ := HQ8.out W hw; go_simp⟩) hS ?_
    simp only [Act.put, List.getElem_toArray, List.getElem_cons_succ, List.getElem_cons_zero, List.setIfInBounds_toArray, List.set_cons_zero, List.set_cons_succ]
    refine S_take (i := 7) (v := .pointer (some ⟨w.heap.size, 0, none⟩)) rfl rfl (by kernel_rfl) (by kernel_rfl) (by kernel_rfl) (fun _ _ _ h => h) (Or.inl ⟨by rfl, fun W hw => by go_simp⟩) hS ?_
    simp only [Act.put, List.getElem_toArray, List.getElem_cons_succ, List.getElem_cons_zero, List.setIfInBounds_toArray, List.set_cons_zero, List.set_cons_succ]
    refine S_take (i := 8) (v := .bool o.th) rfl rfl (by kernel_rfl) (by kernel_rfl) (by kernel_rfl) (fun _ _ _ h => h) (Or.inl ⟨by rfl, fun W hw => by obtain ⟨⟨z0, z1, z2, z3⟩, z4, z5⟩ := HQ8.out W hw; go_simp⟩) hS ?_
    simp only [Act.put, List.getElem_toArray, List.getElem_cons_succ, List.getElem_cons_zero, List.setIfInBounds_toArray, List.set_cons_zero, List.set_cons_succ]
    refine S_take (i := 9) (v := .bool (!o.th)) rfl rfl (by kernel_rfl) (by kernel_rfl) (by kernel_rfl) (fun _ _ _ h => h) (Or.inl ⟨by rfl, fun W hw => by go_simp⟩) hS ?_
    simp only [Act.put, List.getElem_toArray, List.getElem_cons_succ, List.getElem_cons_zero, List.setIfInBounds_toArray, List.set_cons_zero, List.set_cons_succ]
    refine L_one (j := 6) (by kernel_rfl) rfl (by rfl) ?_
    simp only [Act.put, List.getElem_toArray, List.getElem_cons_succ, List.getElem_cons_zero, List.setIfInBounds_toArray, List.set_cons_zero, List.set_cons_succ]
    refine wp_called (by go_simp) (HEM.out _) ?_
    rintro e W2 ⟨rfl, hbl2⟩
    have hS : Below w8.heap.size w8 W2 := hS.trans (hbl2.mono hS.size)
    refine ⟨_, rfl, hS, ?_⟩
    simp only [Act.put, List.getElem_toArray, List.getElem_cons_succ, List.getElem_cons_zero, List.setIfInBounds_toArray, List.set_cons_zero, List.set_cons_succ]
    have HS2 := Lib.hid hS
    cases hth : o.th with
    | true =>
      refine S_take (i := 10) (v := .bool false) rfl rfl (by kernel_rfl) (by kernel_rfl) (by kernel_rfl) (fun _ _ _ h => h) (Or.inl ⟨by rfl, fun W hw => by go_simp⟩) hS ?_
      simp only [Act.put, List.getElem_toArray, List.getElem_cons_succ, List.getElem_cons_zero, List.setIfInBounds_toArray, List.set_cons_zero, List.set_cons_succ]
      refine S_take (i := 11) (v := undef) rfl rfl (by kernel_rfl) (by kernel_rfl) (by kernel_rfl) (fun _ _ _ h => h) (Or.inr ⟨by rfl, rfl⟩) hS ?_
      simp only [Act.put, List.getElem_toArray, List.getElem_cons_succ, List.getElem_cons_zero, List.setIfInBounds_toArray, List.set_cons_zero, List.set_cons_succ]
      refine S_take (i := 12) (v := undef) rfl rfl (by kernel_rfl) (by kernel_rfl) (by kernel_rfl) (fun _ _ _ h => h) (Or.inr ⟨by rfl, rfl⟩) hS ?_
      simp only [Act.put, List.getElem_toArray, List.getElem_cons_succ, List.getElem_cons_zero, List.setIfInBounds_toArray, List.set_cons_zero, List.set_cons_succ]
      refine S_take (i := 13) (v := undef) rfl rfl (by kernel_rfl) (by kernel_rfl) (by kernel_rfl) (fun _ _ _ h => h) (Or.inr ⟨by rfl, rfl⟩) hS ?_
      simp only [Act.put, List.getElem_toArray, List.getElem_cons_succ, List.getElem_cons_zero, List.setIfInBounds_toArray, List.set_cons_zero, List.set_cons_succ]
      refine S_take (i := 14) (v := undef) rfl rfl (by kernel_rfl) (by kernel_rfl) (by kernel_rfl) (fun _ _ _ h => h) (Or.inr ⟨by rfl, rfl⟩) hS ?_
      simp only [Act.put, List.getElem_toArray, List.getElem_cons_succ, List.getElem_cons_zero, List.setIfInBounds_toArray, List.set_cons_zero, List.set_cons_succ]
      refine S_take (i := 15) (v := .bool false) rfl rfl (by kernel_rfl) (by kernel_rfl) (by kernel_rfl) (fun _ _ _ h => h) (Or.inl ⟨by rfl, fun W hw => by go_simp⟩) hS ?_
      simp only [Act.put, List.getElem_toArray, List.getElem_cons_succ, List.getElem_cons_zero, List.setIfInBounds_toArray, List.set_cons_zero, List.set_cons_succ]
      refine S_take (i := 16) (v := .bool false) rfl rfl (by kernel_rfl) (by kernel_rfl) (by kernel_rfl) (fun _ _ _ h => h) (Or.inl ⟨by rfl, fun W hw => by go_simp⟩) hS ?_
      simp only [Act.put, List.getElem_toArray, List.getElem_cons_succ, List.getElem_cons_zero, List.setIfInBounds_toArray, List.set_cons_zero, List.set_cons_succ]
      refine S_take (i := 17) (v := .bool false) rfl rfl (by kernel_rfl) (by kernel_rfl) (by kernel_rfl) (fun _ _ _ h => h) (Or.inl ⟨by rfl, fun W hw => by go_simp⟩) hS ?_
      simp only [Act.put, List.getElem_toArray, List.getElem_cons_succ, List.getElem_cons_zero, List.setIfInBounds_toArray, List.set_cons_zero, List.set_cons_succ]
      refine L_done (by kernel_rfl) ?_
      refine NoPanic.normal ?_
      clear hbl9 hbl2 hS
      have HB2' := Lib.hid (HB8.out.trans (HS2.out.mono HB8.out.size))
      have K0 := (HP5.out W2 HB2'.out).2.2.1
      have HRA := Lib.hid (rat_both (w := W2) o s (HP5.out W2 HB2'.out).2.2.2.1 HPV.out.2.2 HG.out)
      unfold OA.cs at HRA
      rw [hth] at K0 HRA
      go_wp2_with (have _h := K0; refine wpList_loadq rfl 25 (.tmp 2) rfl w.heap.size [.bool true, .slice o.D o.dt.length o.cd, .int .i64 o.sq, .slice o.C o.cl.length o.cc] _ rfl K0 Try.underlying25 rfl (by kernel_rfl) ?_; clear _h K0)
      refine HRA.out.mono ?_
      rintro e W3 ⟨hb3, Aw, cw, rfl, hwant⟩
      have HB3 := Lib.hid (HB2'.out.trans (hb3.mono HB2'.out.size))
      have hx : h = both o.v s := HOB.out.2.2.1 HG.out
      rw [← hx] at hwant ⊢
      have HWT := Lib.hid hwant
      have hbw8 : Below w8.heap.size w8 W3 := HS2.out.trans (hb3.mono HS2.out.size)
      have HOB3 := Lib.hid (HOB8.out.below hbw8)
      have HOT3 := Lib.hid (HOT.out.below hbw8)
      have HSB := Lib.hid (same_any Ab Aw _ _ cb cw _ _ _ _ W3 (HOB3.out.bytes HOB.out.2.1) hwant)
      have KO := (HP5.out W3 HB3.out).2.2.1
      rw [hth] at KO
      have x0 : W3.cell? ⟨w.heap.size, 0, none⟩ = some (.bool true) := KO.cell 0
      have x1 : W3.cell? ⟨w.heap.size, 1, none⟩ = some (.slice o.D o.dt.length o.cd) := KO.cell 1
      have x2 : W3.cell? ⟨w.heap.size, 2, none⟩ = some (.int .i64 o.sq) := KO.cell 2
      have x3 : W3.cell? ⟨w.heap.size, 3, none⟩ = some (.slice o.C o.cl.length o.cc) := KO.cell 3
      have HRP := Lib.hid (rput_any (w := W3) o (HP5.out W3 HB3.out).2.2.2.1 HPV.out.2.2)
      unfold OA.cs at HRP
      rw [hth] at HRP
      have HPL : Hid ((putV o.v).length ≤ 2000000) := Lib.hid (putV_len o HPV.out.2.2 HG.out)
      have HPB : Hid (∀ b ∈ putV o.v, b < 256) := Lib.hid (putV_lt (HP5.out W3 HB3.out).2.2.2.1)
      have HWI : Hid (Wide9 o.v) := Lib.hid (wide9 (HP5.out W3 HB3.out).2.2.2.1 HPV.out.2.2)
      have HLN : Hid ((h.getD []).length ≤ 10000000) := Lib.hid (by rw [hx]; have := both_len s HG.out; omega)
      have HS3 := Lib.hid hbw8.size
      clear hb3 hx hwant hbw8 KO HRA
      rcases h with _ | d
      all_goals
        simp only [Option.getD_none, Option.getD_some, Option.isSome_none, Option.isSome_some] at HSB HWT HOB3 HOB HLN ⊢
        go_wp2_with fail
        first
          | (refine HSB.out.mono ?_
             rintro e W4 ⟨b4, he, hb4, hw4⟩
             have hb4t : b4 = true := hb4 (by trivial)
             subst hb4t
             subst he
             subst hw4
             clear hb4
             go_wp2_with fail)
          | skip
        refine HRP.out.mono ?_
        rintro e W4 ⟨v4, rfl, ho4, hb4⟩
        obtain ⟨A4, c4, rfl, -⟩ := ho4.form
        have HB4 := Lib.hid (HB3.out.trans (hb4.mono HB3.out.size))
        have HS34 := Lib.hid (Nat.le_trans HS3.out hb4.size)
        have HOB4 := Lib.hid (HOB3.out.below hb4)
        have HOT4 := Lib.hid (HOT3.out.below hb4)
        have HST := Lib.hid (same_any At A4 _ _ ct c4 _ _ _ _ W4 (HOT4.out.bytes HPB.out) (ho4.bytes HPB.out))
        clear ho4 hb4 x0 x1 x2 x3
        go_wp2_with fail
        refine HST.out.mono ?_
        rintro e W5 ⟨b5, he, hb5, hw5'⟩
        have hb5t : b5 = true := hb5 (by trivial)
        subst hb5t
        subst he
        subst hw5'
        clear hb5
        go_wp2_with fail
        have HS4 : Hid (w6.heap.size ≤ w7.heap.size ∧ w7.heap.size ≤ w8.heap.size ∧ w8.heap.size ≤ W4.heap.size) := Lib.hid ⟨HS7.out, HS8.out, HS34.out⟩
        refine (over_any W4 w6.heap.size _ _ _ HOB4.out HOB.out.2.1 HLN.out).mono ?_
        rintro e W6 ⟨rfl, ho6⟩
        have hs4 := HS4.out
        have hb46 : Below w6.heap.size W4 W6 := ho6.belowB (fun k hk => row_over HOB4.out k hk) (by omega)
        have HB9 := Lib.hid (HB4.out.trans (hb46.mono HB6.out.size))
        have HOT6 : Hid (Own W6 w7.heap.size (.slice At (putV o.v).length ct) (putV o.v).length (putV o.v)) := Lib.hid (row_of HOT4.out fun k hk => ho6.block k (row_under HOT4.out k hk) (fun hm => by
          have h1 := row_under HOB.out.1 k hm
          have h2 := row_over HOT4.out k hk
          omega))
        have hsW6 : w7.heap.size ≤ W6.heap.size := by have := ho6.size; omega
        have HS6 := Lib.hid hsW6
        clear hs4 hb46 ho6 hsW6
        go_wp2_with fail
        refine (stake_good o.v HG.out HWI.out At _ ct (HOT6.out.bytes HPB.out) (by have := HPL.out; omega)).mono ?_
        rintro e W9 ⟨q, rfl, hqv, hqN, hb9⟩
        have hqs : q.cs = #[.bool q.th, .slice q.D q.dt.length q.cd, .int .i64 q.sq, .slice q.C q.cl.length q.cc] := rfl
        rw [hqs]
        obtain ⟨W10, hw10⟩ : ∃ W10, W10 = W9.alloc (.cells #[.bool q.th, .slice q.D q.dt.length q.cd, .int .i64 q.sq, .slice q.C q.cl.length q.cc] 36) := ⟨_, rfl⟩
        have hb910 : Below W9.heap.size W9 W10 := by rw [hw10]; exact below_alloc W9 _
        have KQ : Blk W10 W9.heap.size 36 #[.bool q.th, .slice q.D q.dt.length q.cd, .int .i64 q.sq, .slice q.C q.cl.length q.cc] := by rw [hw10]; exact Blk.new W9 _ _
        obtain ⟨gq, hgq⟩ : ∃ gq, gq = W9.heap.size := ⟨_, rfl⟩
        rw [← hgq] at KQ
        have hgq6 : W6.heap.size ≤ gq := by have := hb9.size; omega
        have hb610 : Below W6.heap.size W6 W10 := hb9.trans (hb910.mono hb9.size)
        have HN10 := Lib.hid (And.intro (hqN.below hb910) (And.intro KQ hgq6))
        have HQV := Lib.hid hqv
        have HB10 := Lib.hid hb610
        have HOT10 := Lib.hid (HOT6.out.below hb610)
        have HW10 := Lib.hid (And.intro hw10 hgq)
        clear hqs hb910 KQ hgq6 hb610 hqv hqN hb9 hw10 hgq
        go_upto_region 18 with (fail)
        rw [← HW10.out.1, ← HW10.out.2]
        clear HW10
        go_wp2_with fail
        refine (over_any W10 w7.heap.size _ _ _ HOT10.out HPB.out (by have := HPL.out; omega)).mono ?_
        rintro e W11 ⟨rfl, ho11⟩
        have hF : ∀ k ∈ rowOf (.slice At (putV o.v).length ct), k < W6.heap.size := fun k hk => row_under HOT6.out k hk
        have hN11 : q.N W11 W6.heap.size := HN10.out.1.off ho11 hF
        have hK11 : Blk W11 gq 36 #[.bool q.th, .slice q.D q.dt.length q.cd, .int .i64 q.sq, .slice q.C q.cl.length q.cc] := HN10.out.2.1.of (ho11.block gq HN10.out.2.1.lt (fun hm => by have h1 := hF gq hm; have h2 := HN10.out.2.2; omega))
        have hs10 := HB10.out.size
        have hs7 := HS6.out
        have hb1011 : Below w7.heap.size W10 W11 := ho11.belowB (fun k hk => row_over HOT10.out k hk) (by omega)
        have hB11 : Below w5.heap.size w5 W11 := (HB9.out.trans (HB10.out.mono HB9.out.size)).trans (hb1011.mono HB7.out.size)
        have HP11 : Hid (∀ W, Below W11.heap.size W11 W → Blk W gp 36 #[.bool p.th, .slice p.D p.dt.length p.cd, .int .i64 p.sq, .slice p.C p.cl.length p.cc] ∧ Blk W w.heap.size 25 #[.bool o.th, .slice o.D o.dt.length o.cd, .int .i64 o.sq, .slice o.C o.cl.length o.cc] ∧ Blk W gq 36 #[.bool q.th, .slice q.D q.dt.length q.cd, .int .i64 q.sq, .slice q.C q.cl.length q.cc] ∧ p.R W ∧ o.R W ∧ q.R W ∧ Below w.heap.size w W) := Lib.hid fun W hb => by
          have h1 := HP5.out W (hB11.trans (hb.mono hB11.size))
          exact ⟨h1.1, h1.2.2.1, hK11.of (hb.block _ hK11.lt), h1.2.1, h1.2.2.2.1, (hN11.below hb).R, h1.2.2.2.2⟩
        have HQ11 : Hid (∀ W, Below W11.heap.size W11 W → (W.cell? ⟨gp, 0, none⟩ = some (.bool p.th) ∧ W.cell? ⟨gp, 1, none⟩ = some (.slice p.D p.dt.length p.cd) ∧ W.cell? ⟨gp, 2, none⟩ = some (.int .i64 p.sq) ∧ W.cell? ⟨gp, 3, none⟩ = some (.slice p.C p.cl.length p.cc)) ∧ (W.cell? ⟨w.heap.size, 0, none⟩ = some (.bool o.th) ∧ W.cell? ⟨w.heap.size, 1, none⟩ = some (.slice o.D o.dt.length o.cd) ∧ W.cell? ⟨w.heap.size, 2, none⟩ = some (.int .i64 o.sq) ∧ W.cell? ⟨w.heap.size, 3, none⟩ = some (.slice o.C o.cl.length o.cc)) ∧ W.cell? ⟨gq, 0, none⟩ = some (.bool q.th) ∧ W.cell? ⟨gq, 1, none⟩ = some (.slice q.D q.dt.length q.cd) ∧ W.cell? ⟨gq, 2, none⟩ = some (.int .i64 q.sq) ∧ W.cell? ⟨gq, 3, none⟩ = some (.slice q.C q.cl.length q.cc)) := Lib.hid fun W hb => by
          have h1 := HP11.out W hb
          exact ⟨⟨h1.1.cell 0, h1.1.cell 1, h1.1.cell 2, h1.1.cell 3⟩, ⟨h1.2.1.cell 0, h1.2.1.cell 1, h1.2.1.cell 2, h1.2.1.cell 3⟩, h1.2.2.1.cell 0, h1.2.2.1.cell 1, h1.2.2.1.cell 2, h1.2.2.1.cell 3⟩
        have HPQ : Hid (∀ W, Below W11.heap.size W11 W → Calls Try.prog 18 #[.agg #[.bool q.th, .slice q.D q.dt.length q.cd, .int .i64 q.sq, .slice q.C q.cl.length q.cc]] W fun e w' => ∃ x : OA, e = .returned (.agg x.cs) ∧ x.v = q.v ∧ x.R w' ∧ Below W.heap.size W w') := Lib.hid fun W hb => plain_one q (HP11.out W hb).2.2.2.2.2.1 (OA.Sm.of_v HPV.out.2.2 HQV.out)
        have HPP : Hid (∀ W, Below W11.heap.size W11 W → Calls Try.prog 18 #[.agg #[.bool p.th, .slice p.D p.dt.length p.cd, .int .i64 p.sq, .slice p.C p.cl.length p.cc]] W fun e w' => ∃ x : OA, e = .returned (.agg x.cs) ∧ x.v = p.v ∧ x.R w' ∧ Below W.heap.size W w') := Lib.hid fun W hb => plain_one p (HP11.out W hb).2.2.2.1 HPV.out.2.1
        have HSM : Hid (∀ W (x : OA), Below W11.heap.size W11 W → x.R W → x.v = o.v → Calls Try.prog 17 #[.agg x.cs, .agg #[.bool o.th, .slice o.D o.dt.length o.cd, .int .i64 o.sq, .slice o.C o.cl.length o.cc]] W fun e w' => e = .returned (.bool true) ∧ Below W.heap.size W w') := Lib.hid fun W x hb hx hv => rsame_any x o hx (HP11.out W hb).2.2.2.2.1 hv (OA.Sm.of_v HPV.out.2.2 hv)
        clear hF hN11 hK11 hs10 hs7 hb1011 hB11 ho11
        clear hth
        go_wp2
        have hS : Below W11.heap.size W11 W11.drew := below_drew9 W11
        refine any_beginL (fun W => Below W11.heap.size W11 W) 99 (by kernel_rfl) ?_
        refine S_take (i := 0) (v := .nilIface) rfl rfl (by kernel_rfl) (by kernel_rfl) (by kernel_rfl) (fun _ _ _ h => h) (Or.inl ⟨by rfl, fun W hw => by go_simp⟩) hS ?_
        simp only [Act.put, List.getElem_toArray, List.getElem_cons_succ, List.getElem_cons_zero, List.setIfInBounds_toArray, List.set_cons_zero, List.set_cons_succ]
        refine S_take (i := 1) (v := .bool true) rfl rfl (by kernel_rfl) (by kernel_rfl) (by kernel_rfl) (fun _ _ _ h => h) (Or.inl ⟨by rfl, fun W hw => by go_simp⟩) hS ?_
        simp only [Act.put, List.getElem_toArray, List.getElem_cons_succ, List.getElem_cons_zero, List.setIfInBounds_toArray, List.set_cons_zero, List.set_cons_succ]
        refine S_take (i := 2) (v := .bool true) rfl rfl (by kernel_rfl) (by kernel_rfl) (by kernel_rfl) (fun _ _ _ h => h) (Or.inl ⟨by rfl, fun W hw => by go_simp⟩) hS ?_
        simp only [Act.put, List.getElem_toArray, List.getElem_cons_succ, List.getElem_cons_zero, List.setIfInBounds_toArray, List.set_cons_zero, List.set_cons_succ]
        refine S_take (i := 3) (v := .agg #[.bool q.th, .slice q.D q.dt.length q.cd, .int .i64 q.sq, .slice q.C q.cl.length q.cc]) rfl rfl (by kernel_rfl) (by kernel_rfl) (by kernel_rfl) (fun _ _ _ h => h) (Or.inl ⟨by rfl, fun W hw => by obtain ⟨⟨x0, x1, x2, x3⟩, ⟨y0, y1, y2, y3⟩, z0, z1, z2, z3⟩ := HQ11.out W hw; go_simp⟩) hS ?_
        simp only [Act.put, List.getElem_toArray, List.getElem_cons_succ, List.getElem_cons_zero, List.setIfInBounds_toArray, List.set_cons_zero, List.set_cons_succ]
        refine S_take (i := 5) (v := .agg #[.bool o.th, .slice o.D o.dt.length o.cd, .int .i64 o.sq, .slice o.C o.cl.length o.cc]) rfl rfl (by kernel_rfl) (by kernel_rfl) (by kernel_rfl) (fun _ _ _ h => h) (Or.inl ⟨by rfl, fun W hw => by obtain ⟨⟨x0, x1, x2, x3⟩, ⟨y0, y1, y2, y3⟩, z0, z1, z2, z3⟩ := HQ11.out W hw; go_simp⟩) hS ?_
        simp only [Act.put, List.getElem_toArray, List.getElem_cons_succ, List.getElem_cons_zero, List.setIfInBounds_toArray, List.set_cons_zero, List.set_cons_succ]
        refine L_one (j := 4) (by kernel_rfl) rfl (by rfl) ?_
        simp only [Act.put, List.getElem_toArray, List.getElem_cons_succ, List.getElem_cons_zero, List.setIfInBounds_toArray, List.set_cons_zero, List.set_cons_succ]
        refine wp_called (by go_simp) (HPQ.out _ hS) ?_
        rintro e W12 ⟨xq, rfl, hvxq, hRxq, hblxq⟩
        have hS : Below W11.heap.size W11 W12 := hS.trans (hblxq.mono hS.size)
        have HSMxq := Lib.hid (HSM.out W12 xq hS hRxq (hvxq.trans HQV.out))
        refine ⟨_, rfl, hS, ?_⟩
        clear hvxq hRxq hblxq
        simp only [Act.put, List.getElem_toArray, List.getElem_cons_succ, List.getElem_cons_zero, List.setIfInBounds_toArray, List.set_cons_zero, List.set_cons_succ]
        refine L_one (j := 6) (by kernel_rfl) rfl (by rfl) ?_
        simp only [Act.put, List.getElem_toArray, List.getElem_cons_succ, List.getElem_cons_zero, List.setIfInBounds_toArray, List.set_cons_zero, List.set_cons_succ]
        refine wp_called (by go_simp) HSMxq.out ?_
        rintro e W13 ⟨rfl, hblxq⟩
        have hS : Below W11.heap.size W11 W13 := hS.trans (hblxq.mono hS.size)
        refine ⟨_, rfl, hS, ?_⟩
        clear hblxq
        simp only [Act.put, List.getElem_toArray, List.getElem_cons_succ, List.getElem_cons_zero, List.setIfInBounds_toArray, List.set_cons_zero, List.set_cons_succ]
        refine S_take (i := 7) (v := .bool true) rfl rfl (by kernel_rfl) (by kernel_rfl) (by kernel_rfl) (fun _ _ _ h => h) (Or.inl ⟨by rfl, fun W hw => by go_simp⟩) hS ?_
        simp only [Act.put, List.getElem_toArray, List.getElem_cons_succ, List.getElem_cons_zero, List.setIfInBounds_toArray, List.set_cons_zero, List.set_cons_succ]
        refine S_take (i := 8) (v := .bool true) rfl rfl (by kernel_rfl) (by kernel_rfl) (by kernel_rfl) (fun _ _ _ h => h) (Or.inl ⟨by rfl, fun W hw => by go_simp⟩) hS ?_
        simp only [Act.put, List.getElem_toArray, List.getElem_cons_succ, List.getElem_cons_zero, List.setIfInBounds_toArray, List.set_cons_zero, List.set_cons_succ]
        refine S_take (i := 9) (v := .agg #[.bool p.th, .slice p.D p.dt.length p.cd, .int .i64 p.sq, .slice p.C p.cl.length p.cc]) rfl rfl (by kernel_rfl) (by kernel_rfl) (by kernel_rfl) (fun _ _ _ h => h) (Or.inl ⟨by rfl, fun W hw => by obtain ⟨⟨x0, x1, x2, x3⟩, ⟨y0, y1, y2, y3⟩, z0, z1, z2, z3⟩ := HQ11.out W hw; go_simp⟩) hS ?_
        simp only [Act.put, List.getElem_toArray, List.getElem_cons_succ, List.getElem_cons_zero, List.setIfInBounds_toArray, List.set_cons_zero, List.set_cons_succ]
        refine S_take (i := 11) (v := .agg #[.bool o.th, .slice o.D o.dt.length o.cd, .int .i64 o.sq, .slice o.C o.cl.length o.cc]) rfl rfl (by kernel_rfl) (by kernel_rfl) (by kernel_rfl) (fun _ _ _ h => h) (Or.inl ⟨by rfl, fun W hw => by obtain ⟨⟨x0, x1, x2, x3⟩, ⟨y0, y1, y2, y3⟩, z0, z1, z2, z3⟩ := HQ11.out W hw; go_simp⟩) hS ?_
        simp only [Act.put, List.getElem_toArray, List.getElem_cons_succ, List.getElem_cons_zero, List.setIfInBounds_toArray, List.set_cons_zero, List.set_cons_succ]
        refine L_one (j := 10) (by kernel_rfl) rfl (by rfl) ?_
        simp only [Act.put, List.getElem_toArray, List.getElem_cons_succ, List.getElem_cons_zero, List.setIfInBounds_toArray, List.set_cons_zero, List.set_cons_succ]
        refine wp_called (by go_simp) (HPP.out _ hS) ?_
        rintro e W14 ⟨xp, rfl, hvxp, hRxp, hblxp⟩
        have hS : Below W11.heap.size W11 W14 := hS.trans (hblxp.mono hS.size)
        have HSMxp := Lib.hid (HSM.out W14 xp hS hRxp (hvxp.trans HPV.out.1))
        refine ⟨_, rfl, hS, ?_⟩
        clear hvxp hRxp hblxp
        simp only [Act.put, List.getElem_toArray, List.getElem_cons_succ, List.getElem_cons_zero, List.setIfInBounds_toArray, List.set_cons_zero, List.set_cons_succ]
        refine L_one (j := 12) (by kernel_rfl) rfl (by rfl) ?_
        simp only [Act.put, List.getElem_toArray, List.getElem_cons_succ, List.getElem_cons_zero, List.setIfInBounds_toArray, List.set_cons_zero, List.set_cons_succ]
        refine wp_called (by go_simp) HSMxp.out ?_
        rintro e W15 ⟨rfl, hblxp⟩
        have hS : Below W11.heap.size W11 W15 := hS.trans (hblxp.mono hS.size)
        refine ⟨_, rfl, hS, ?_⟩
        clear hblxp
        simp only [Act.put, List.getElem_toArray, List.getElem_cons_succ, List.getElem_cons_zero, List.setIfInBounds_toArray, List.set_cons_zero, List.set_cons_succ]
        refine S_take (i := 13) (v := .bool true) rfl rfl (by kernel_rfl) (by kernel_rfl) (by kernel_rfl) (fun _ _ _ h => h) (Or.inl ⟨by rfl, fun W hw => by go_simp⟩) hS ?_
        simp only [Act.put, List.getElem_toArray, List.getElem_cons_succ, List.getElem_cons_zero, List.setIfInBounds_toArray, List.set_cons_zero, List.set_cons_succ]
        refine S_take (i := 14) (v := .bool true) rfl rfl (by kernel_rfl) (by kernel_rfl) (by kernel_rfl) (fun _ _ _ h => h) (Or.inl ⟨by rfl, fun W hw => by go_simp⟩) hS ?_
        simp only [Act.put, List.getElem_toArray, List.getElem_cons_succ, List.getElem_cons_zero, List.setIfInBounds_toArray, List.set_cons_zero, List.set_cons_succ]
        refine L_done (by kernel_rfl) ?_
        refine NoPanic.normal ?_
        have HE := Lib.hid (HP11.out W15 hS).2.2.2.2.2.2
        clear hS
        go_wp2
        go_ret
        exact ⟨rfl, HE.out⟩
    | false =>
      obtain ⟨z, hz⟩ : ∃ z : Bool, z = decide (o.cl.length = 0) := ⟨_, rfl⟩
      have hz2 : ((o.cl.length : Int) == 0) = z := by rw [hz, Bool.eq_iff_iff, beq_iff_eq, decide_eq_true_iff]; omega
      refine S_take (i := 10) (v := .bool true) rfl rfl (by kernel_rfl) (by kernel_rfl) (by kernel_rfl) (fun _ _ _ h => h) (Or.inl ⟨by rfl, fun W hw => by go_simp⟩) hS ?_
      simp only [Act.put, List.getElem_toArray, List.getElem_cons_succ, List.getElem_cons_zero, List.setIfInBounds_toArray, List.set_cons_zero, List.set_cons_succ]
      refine S_take (i := 11) (v := .pointer (some ⟨w.heap.size, 3, none⟩)) rfl rfl (by kernel_rfl) (by kernel_rfl) (by kernel_rfl) (fun _ _ _ h => h) (Or.inl ⟨by rfl, fun W hw => by go_simp⟩) hS ?_
      simp only [Act.put, List.getElem_toArray, List.getElem_cons_succ, List.getElem_cons_zero, List.setIfInBounds_toArray, List.set_cons_zero, List.set_cons_succ]
      refine S_take (i := 12) (v := .slice o.C o.cl.length o.cc) rfl rfl (by kernel_rfl) (by kernel_rfl) (by kernel_rfl) (fun _ _ _ h => h) (Or.inl ⟨by rfl, fun W hw => by obtain ⟨⟨z0, z1, z2, z3⟩, z4, z5⟩ := HQ8.out W hw; go_simp⟩) hS ?_
      simp only [Act.put, List.getElem_toArray, List.getElem_cons_succ, List.getElem_cons_zero, List.setIfInBounds_toArray, List.set_cons_zero, List.set_cons_succ]
      refine S_take (i := 13) (v := .int .i64 (o.cl.length : Int)) rfl rfl (by kernel_rfl) (by kernel_rfl) (by kernel_rfl) (fun _ _ _ h => h) (Or.inl ⟨by rfl, fun W hw => by go_simp⟩) hS ?_
      simp only [Act.put, List.getElem_toArray, List.getElem_cons_succ, List.getElem_cons_zero, List.setIfInBounds_toArray, List.set_cons_zero, List.set_cons_succ]
      refine S_take (i := 14) (v := .bool z) rfl rfl (by kernel_rfl) (by kernel_rfl) (by kernel_rfl) (fun _ _ _ h => h) (Or.inl ⟨by rfl, fun W hw => by go_simp⟩) hS ?_
      simp only [Act.put, List.getElem_toArray, List.getElem_cons_succ, List.getElem_cons_zero, List.setIfInBounds_toArray, List.set_cons_zero, List.set_cons_succ]
      refine S_take (i := 15) (v := .bool z) rfl rfl (by kernel_rfl) (by kernel_rfl) (by kernel_rfl) (fun _ _ _ h => h) (Or.inl ⟨by rfl, fun W hw => by go_simp⟩) hS ?_
      simp only [Act.put, List.getElem_toArray, List.getElem_cons_succ, List.getElem_cons_zero, List.setIfInBounds_toArray, List.set_cons_zero, List.set_cons_succ]
      refine S_take (i := 16) (v := .bool false) rfl rfl (by kernel_rfl) (by kernel_rfl) (by kernel_rfl) (fun _ _ _ h => h) (Or.inl ⟨by rfl, fun W hw => by go_simp⟩) hS ?_
      simp only [Act.put, List.getElem_toArray, List.getElem_cons_succ, List.getElem_cons_zero, List.setIfInBounds_toArray, List.set_cons_zero, List.set_cons_succ]
      refine S_take (i := 17) (v := .bool false) rfl rfl (by kernel_rfl) (by kernel_rfl) (by kernel_rfl) (fun _ _ _ h => h) (Or.inl ⟨by rfl, fun W hw => by go_simp⟩) hS ?_
      simp only [Act.put, List.getElem_toArray, List.getElem_cons_succ, List.getElem_cons_zero, List.setIfInBounds_toArray, List.set_cons_zero, List.set_cons_succ]
      refine L_done (by kernel_rfl) ?_
      refine NoPanic.normal ?_
      clear hbl9 hbl2 hS hz hz2
      have HB2' := Lib.hid (HB8.out.trans (HS2.out.mono HB8.out.size))
      have K0 := (HP5.out W2 HB2'.out).2.2.1
      have HRA := Lib.hid (rat_both (w := W2) o s (HP5.out W2 HB2'.out).2.2.2.1 HPV.out.2.2 HG.out)
      unfold OA.cs at HRA
      rw [hth] at K0 HRA
      go_wp2_with (have _h := K0; refine wpList_loadq rfl 25 (.tmp 2) rfl w.heap.size [.bool false, .slice o.D o.dt.length o.cd, .int .i64 o.sq, .slice o.C o.cl.length o.cc] _ rfl K0 Try.underlying25 rfl (by kernel_rfl) ?_; clear _h K0)
      refine HRA.out.mono ?_
      rintro e W3 ⟨hb3, Aw, cw, rfl, hwant⟩
      have HB3 := Lib.hid (HB2'.out.trans (hb3.mono HB2'.out.size))
      have hx : h = both o.v s := HOB.out.2.2.1 HG.out
      rw [← hx] at hwant ⊢
      have HWT := Lib.hid hwant
      have hbw8 : Below w8.heap.size w8 W3 := HS2.out.trans (hb3.mono HS2.out.size)
      have HOB3 := Lib.hid (HOB8.out.below hbw8)
      have HOT3 := Lib.hid (HOT.out.below hbw8)
      have HSB := Lib.hid (same_any Ab Aw _ _ cb cw _ _ _ _ W3 (HOB3.out.bytes HOB.out.2.1) hwant)
      have KO := (HP5.out W3 HB3.out).2.2.1
      rw [hth] at KO
      have x0 : W3.cell? ⟨w.heap.size, 0, none⟩ = some (.bool false) := KO.cell 0
      have x1 : W3.cell? ⟨w.heap.size, 1, none⟩ = some (.slice o.D o.dt.length o.cd) := KO.cell 1
      have x2 : W3.cell? ⟨w.heap.size, 2, none⟩ = some (.int .i64 o.sq) := KO.cell 2
      have x3 : W3.cell? ⟨w.heap.size, 3, none⟩ = some (.slice o.C o.cl.length o.cc) := KO.cell 3
      have HRP := Lib.hid (rput_any (w := W3) o (HP5.out W3 HB3.out).2.2.2.1 HPV.out.2.2)
      unfold OA.cs at HRP
      rw [hth] at HRP
      have HPL : Hid ((putV o.v).length ≤ 2000000) := Lib.hid (putV_len o HPV.out.2.2 HG.out)
      have HPB : Hid (∀ b ∈ putV o.v, b < 256) := Lib.hid (putV_lt (HP5.out W3 HB3.out).2.2.2.1)
      have HWI : Hid (Wide9 o.v) := Lib.hid (wide9 (HP5.out W3 HB3.out).2.2.2.1 HPV.out.2.2)
      have HLN : Hid ((h.getD []).length ≤ 10000000) := Lib.hid (by rw [hx]; have := both_len s HG.out; omega)
      have HS3 := Lib.hid hbw8.size
      clear hb3 hx hwant hbw8 KO HRA
      rcases h with _ | d
      all_goals
        simp only [Option.getD_none, Option.getD_some, Option.isSome_none, Option.isSome_some] at HSB HWT HOB3 HOB HLN ⊢
        go_wp2_with fail
        first
          | (refine HSB.out.mono ?_
             rintro e W4 ⟨b4, he, hb4, hw4⟩
             have hb4t : b4 = true := hb4 (by trivial)
             subst hb4t
             subst he
             subst hw4
             clear hb4
             go_wp2_with fail)
          | skip
        refine HRP.out.mono ?_
        rintro e W4 ⟨v4, rfl, ho4, hb4⟩
        obtain ⟨A4, c4, rfl, -⟩ := ho4.form
        have HB4 := Lib.hid (HB3.out.trans (hb4.mono HB3.out.size))
        have HS34 := Lib.hid (Nat.le_trans HS3.out hb4.size)
        have HOB4 := Lib.hid (HOB3.out.below hb4)
        have HOT4 := Lib.hid (HOT3.out.below hb4)
        have HST := Lib.hid (same_any At A4 _ _ ct c4 _ _ _ _ W4 (HOT4.out.bytes HPB.out) (ho4.bytes HPB.out))
        clear ho4 hb4 x0 x1 x2 x3
        go_wp2_with fail
        refine HST.out.mono ?_
        rintro e W5 ⟨b5, he, hb5, hw5'⟩
        have hb5t : b5 = true := hb5 (by trivial)
        subst hb5t
        subst he
        subst hw5'
        clear hb5
        go_wp2_with fail
        have HS4 : Hid (w6.heap.size ≤ w7.heap.size ∧ w7.heap.size ≤ w8.heap.size ∧ w8.heap.size ≤ W4.heap.size) := Lib.hid ⟨HS7.out, HS8.out, HS34.out⟩
        refine (over_any W4 w6.heap.size _ _ _ HOB4.out HOB.out.2.1 HLN.out).mono ?_
        rintro e W6 ⟨rfl, ho6⟩
        have hs4 := HS4.out
        have hb46 : Below w6.heap.size W4 W6 := ho6.belowB (fun k hk => row_over HOB4.out k hk) (by omega)
        have HB9 := Lib.hid (HB4.out.trans (hb46.mono HB6.out.size))
        have HOT6 : Hid (Own W6 w7.heap.size (.slice At (putV o.v).length ct) (putV o.v).length (putV o.v)) := Lib.hid (row_of HOT4.out fun k hk => ho6.block k (row_under HOT4.out k hk) (fun hm => by
          have h1 := row_under HOB.out.1 k hm
          have h2 := row_over HOT4.out k hk
          omega))
        have hsW6 : w7.heap.size ≤ W6.heap.size := by have := ho6.size; omega
        have HS6 := Lib.hid hsW6
        clear hs4 hb46 ho6 hsW6
        go_wp2_with fail
        refine (stake_good o.v HG.out HWI.out At _ ct (HOT6.out.bytes HPB.out) (by have := HPL.out; omega)).mono ?_
        rintro e W9 ⟨q, rfl, hqv, hqN, hb9⟩
        have hqs : q.cs = #[.bool q.th, .slice q.D q.dt.length q.cd, .int .i64 q.sq, .slice q.C q.cl.length q.cc] := rfl
        rw [hqs]
        obtain ⟨W10, hw10⟩ : ∃ W10, W10 = W9.alloc (.cells #[.bool q.th, .slice q.D q.dt.length q.cd, .int .i64 q.sq, .slice q.C q.cl.length q.cc] 36) := ⟨_, rfl⟩
        have hb910 : Below W9.heap.size W9 W10 := by rw [hw10]; exact below_alloc W9 _
        have KQ : Blk W10 W9.heap.size 36 #[.bool q.th, .slice q.D q.dt.length q.cd, .int .i64 q.sq, .slice q.C q.cl.length q.cc] := by rw [hw10]; exact Blk.new W9 _ _
        obtain ⟨gq, hgq⟩ : ∃ gq, gq = W9.heap.size := ⟨_, rfl⟩
        rw [← hgq] at KQ
        have hgq6 : W6.heap.size ≤ gq := by have := hb9.size; omega
        have hb610 : Below W6.heap.size W6 W10 := hb9.trans (hb910.mono hb9.size)
        have HN10 := Lib.hid (And.intro (hqN.below hb910) (And.intro KQ hgq6))
        have HQV := Lib.hid hqv
        have HB10 := Lib.hid hb610
        have HOT10 := Lib.hid (HOT6.out.below hb610)
        have HW10 := Lib.hid (And.intro hw10 hgq)
        clear hqs hb910 KQ hgq6 hb610 hqv hqN hb9 hw10 hgq
        go_upto_region 18 with (fail)
        rw [← HW10.out.1, ← HW10.out.2]
        clear HW10
        go_wp2_with fail
        refine (over_any W10 w7.heap.size _ _ _ HOT10.out HPB.out (by have := HPL.out; omega)).mono ?_
        rintro e W11 ⟨rfl, ho11⟩
        have hF : ∀ k ∈ rowOf (.slice At (putV o.v).length ct), k < W6.heap.size := fun k hk => row_under HOT6.out k hk
        have hN11 : q.N W11 W6.heap.size := HN10.out.1.off ho11 hF
        have hK11 : Blk W11 gq 36 #[.bool q.th, .slice q.D q.dt.length q.cd, .int .i64 q.sq, .slice q.C q.cl.length q.cc] := HN10.out.2.1.of (ho11.block gq HN10.out.2.1.lt (fun hm => by have h1 := hF gq hm; have h2 := HN10.out.2.2; omega))
        have hs10 := HB10.out.size
        have hs7 := HS6.out
        have hb1011 : Below w7.heap.size W10 W11 := ho11.belowB (fun k hk => row_over HOT10.out k hk) (by omega)
        have hB11 : Below w5.heap.size w5 W11 := (HB9.out.trans (HB10.out.mono HB9.out.size)).trans (hb1011.mono HB7.out.size)
        have HP11 : Hid (∀ W, Below W11.heap.size W11 W → Blk W gp 36 #[.bool p.th, .slice p.D p.dt.length p.cd, .int .i64 p.sq, .slice p.C p.cl.length p.cc] ∧ Blk W w.heap.size 25 #[.bool o.th, .slice o.D o.dt.length o.cd, .int .i64 o.sq, .slice o.C o.cl.length o.cc] ∧ Blk W gq 36 #[.bool q.th, .slice q.D q.dt.length q.cd, .int .i64 q.sq, .slice q.C q.cl.length q.cc] ∧ p.R W ∧ o.R W ∧ q.R W ∧ Below w.heap.size w W) := Lib.hid fun W hb => by
          have h1 := HP5.out W (hB11.trans (hb.mono hB11.size))
          exact ⟨h1.1, h1.2.2.1, hK11.of (hb.block _ hK11.lt), h1.2.1, h1.2.2.2.1, (hN11.below hb).R, h1.2.2.2.2⟩
        have HQ11 : Hid (∀ W, Below W11.heap.size W11 W → (W.cell? ⟨gp, 0, none⟩ = some (.bool p.th) ∧ W.cell? ⟨gp, 1, none⟩ = some (.slice p.D p.dt.length p.cd) ∧ W.cell? ⟨gp, 2, none⟩ = some (.int .i64 p.sq) ∧ W.cell? ⟨gp, 3, none⟩ = some (.slice p.C p.cl.length p.cc)) ∧ (W.cell? ⟨w.heap.size, 0, none⟩ = some (.bool o.th) ∧ W.cell? ⟨w.heap.size, 1, none⟩ = some (.slice o.D o.dt.length o.cd) ∧ W.cell? ⟨w.heap.size, 2, none⟩ = some (.int .i64 o.sq) ∧ W.cell? ⟨w.heap.size, 3, none⟩ = some (.slice o.C o.cl.length o.cc)) ∧ W.cell? ⟨gq, 0, none⟩ = some (.bool q.th) ∧ W.cell? ⟨gq, 1, none⟩ = some (.slice q.D q.dt.length q.cd) ∧ W.cell? ⟨gq, 2, none⟩ = some (.int .i64 q.sq) ∧ W.cell? ⟨gq, 3, none⟩ = some (.slice q.C q.cl.length q.cc)) := Lib.hid fun W hb => by
          have h1 := HP11.out W hb
          exact ⟨⟨h1.1.cell 0, h1.1.cell 1, h1.1.cell 2, h1.1.cell 3⟩, ⟨h1.2.1.cell 0, h1.2.1.cell 1, h1.2.1.cell 2, h1.2.1.cell 3⟩, h1.2.2.1.cell 0, h1.2.2.1.cell 1, h1.2.2.1.cell 2, h1.2.2.1.cell 3⟩
        have HPQ : Hid (∀ W, Below W11.heap.size W11 W → Calls Try.prog 18 #[.agg #[.bool q.th, .slice q.D q.dt.length q.cd, .int .i64 q.sq, .slice q.C q.cl.length q.cc]] W fun e w' => ∃ x : OA, e = .returned (.agg x.cs) ∧ x.v = q.v ∧ x.R w' ∧ Below W.heap.size W w') := Lib.hid fun W hb => plain_one q (HP11.out W hb).2.2.2.2.2.1 (OA.Sm.of_v HPV.out.2.2 HQV.out)
        have HPP : Hid (∀ W, Below W11.heap.size W11 W → Calls Try.prog 18 #[.agg #[.bool p.th, .slice p.D p.dt.length p.cd, .int .i64 p.sq, .slice p.C p.cl.length p.cc]] W fun e w' => ∃ x : OA, e = .returned (.agg x.cs) ∧ x.v = p.v ∧ x.R w' ∧ Below W.heap.size W w') := Lib.hid fun W hb => plain_one p (HP11.out W hb).2.2.2.1 HPV.out.2.1
        have HSM : Hid (∀ W (x : OA), Below W11.heap.size W11 W → x.R W → x.v = o.v → Calls Try.prog 17 #[.agg x.cs, .agg #[.bool o.th, .slice o.D o.dt.length o.cd, .int .i64 o.sq, .slice o.C o.cl.length o.cc]] W fun e w' => e = .returned (.bool true) ∧ Below W.heap.size W w') := Lib.hid fun W x hb hx hv => rsame_any x o hx (HP11.out W hb).2.2.2.2.1 hv (OA.Sm.of_v HPV.out.2.2 hv)
        clear hF hN11 hK11 hs10 hs7 hb1011 hB11 ho11
        clear hth
        go_wp2
        have hS : Below W11.heap.size W11 W11.drew := below_drew9 W11
        refine any_beginL (fun W => Below W11.heap.size W11 W) 99 (by kernel_rfl) ?_
        refine S_take (i := 0) (v := .nilIface) rfl rfl (by kernel_rfl) (by kernel_rfl) (by kernel_rfl) (fun _ _ _ h => h) (Or.inl ⟨by rfl, fun W hw => by go_simp⟩) hS ?_
        simp only [Act.put, List.getElem_toArray, List.getElem_cons_succ, List.getElem_cons_zero, List.setIfInBounds_toArray, List.set_cons_zero, List.set_cons_succ]
        refine S_take (i := 1) (v := .bool true) rfl rfl (by kernel_rfl) (by kernel_rfl) (by kernel_rfl) (fun _ _ _ h => h) (Or.inl ⟨by rfl, fun W hw => by go_simp⟩) hS ?_
        simp only [Act.put, List.getElem_toArray, List.getElem_cons_succ, List.getElem_cons_zero, List.setIfInBounds_toArray, List.set_cons_zero, List.set_cons_succ]
        refine S_take (i := 2) (v := .bool true) rfl rfl (by kernel_rfl) (by kernel_rfl) (by kernel_rfl) (fun _ _ _ h => h) (Or.inl ⟨by rfl, fun W hw => by go_simp⟩) hS ?_
        simp only [Act.put, List.getElem_toArray, List.getElem_cons_succ, List.getElem_cons_zero, List.setIfInBounds_toArray, List.set_cons_zero, List.set_cons_succ]
        refine S_take (i := 3) (v := .agg #[.bool q.th, .slice q.D q.dt.length q.cd, .int .i64 q.sq, .slice q.C q.cl.length q.cc]) rfl rfl (by kernel_rfl) (by kernel_rfl) (by kernel_rfl) (fun _ _ _ h => h) (Or.inl ⟨by rfl, fun W hw => by obtain ⟨⟨x0, x1, x2, x3⟩, ⟨y0, y1, y2, y3⟩, z0, z1, z2, z3⟩ := HQ11.out W hw; go_simp⟩) hS ?_
        simp only [Act.put, List.getElem_toArray, List.getElem_cons_succ, List.getElem_cons_zero, List.setIfInBounds_toArray, List.set_cons_zero, List.set_cons_succ]
        refine S_take (i := 5) (v := .agg #[.bool o.th, .slice o.D o.dt.length o.cd, .int .i64 o.sq, .slice o.C o.cl.length o.cc]) rfl rfl (by kernel_rfl) (by kernel_rfl) (by kernel_rfl) (fun _ _ _ h => h) (Or.inl ⟨by rfl, fun W hw => by obtain ⟨⟨x0, x1, x2, x3⟩, ⟨y0, y1, y2, y3⟩, z0, z1, z2, z3⟩ := HQ11.out W hw; go_simp⟩) hS ?_
        simp only [Act.put, List.getElem_toArray, List.getElem_cons_succ, List.getElem_cons_zero, List.setIfInBounds_toArray, List.set_cons_zero, List.set_cons_succ]
        refine L_one (j := 4) (by kernel_rfl) rfl (by rfl) ?_
        simp only [Act.put, List.getElem_toArray, List.getElem_cons_succ, List.getElem_cons_zero, List.setIfInBounds_toArray, List.set_cons_zero, List.set_cons_succ]
        refine wp_called (by go_simp) (HPQ.out _ hS) ?_
        rintro e W12 ⟨xq, rfl, hvxq, hRxq, hblxq⟩
        have hS : Below W11.heap.size W11 W12 := hS.trans (hblxq.mono hS.size)
        have HSMxq := Lib.hid (HSM.out W12 xq hS hRxq (hvxq.trans HQV.out))
        refine ⟨_, rfl, hS, ?_⟩
        clear hvxq hRxq hblxq
        simp only [Act.put, List.getElem_toArray, List.getElem_cons_succ, List.getElem_cons_zero, List.setIfInBounds_toArray, List.set_cons_zero, List.set_cons_succ]
        refine L_one (j := 6) (by kernel_rfl) rfl (by rfl) ?_
        simp only [Act.put, List.getElem_toArray, List.getElem_cons_succ, List.getElem_cons_zero, List.setIfInBounds_toArray, List.set_cons_zero, List.set_cons_succ]
        refine wp_called (by go_simp) HSMxq.out ?_
        rintro e W13 ⟨rfl, hblxq⟩
        have hS : Below W11.heap.size W11 W13 := hS.trans (hblxq.mono hS.size)
        refine ⟨_, rfl, hS, ?_⟩
        clear hblxq
        simp only [Act.put, List.getElem_toArray, List.getElem_cons_succ, List.getElem_cons_zero, List.setIfInBounds_toArray, List.set_cons_zero, List.set_cons_succ]
        refine S_take (i := 7) (v := .bool true) rfl rfl (by kernel_rfl) (by kernel_rfl) (by kernel_rfl) (fun _ _ _ h => h) (Or.inl ⟨by rfl, fun W hw => by go_simp⟩) hS ?_
        simp only [Act.put, List.getElem_toArray, List.getElem_cons_succ, List.getElem_cons_zero, List.setIfInBounds_toArray, List.set_cons_zero, List.set_cons_succ]
        refine S_take (i := 8) (v := .bool true) rfl rfl (by kernel_rfl) (by kernel_rfl) (by kernel_rfl) (fun _ _ _ h => h) (Or.inl ⟨by rfl, fun W hw => by go_simp⟩) hS ?_
        simp only [Act.put, List.getElem_toArray, List.getElem_cons_succ, List.getElem_cons_zero, List.setIfInBounds_toArray, List.set_cons_zero, List.set_cons_succ]
        refine S_take (i := 9) (v := .agg #[.bool p.th, .slice p.D p.dt.length p.cd, .int .i64 p.sq, .slice p.C p.cl.length p.cc]) rfl rfl (by kernel_rfl) (by kernel_rfl) (by kernel_rfl) (fun _ _ _ h => h) (Or.inl ⟨by rfl, fun W hw => by obtain ⟨⟨x0, x1, x2, x3⟩, ⟨y0, y1, y2, y3⟩, z0, z1, z2, z3⟩ := HQ11.out W hw; go_simp⟩) hS ?_
        simp only [Act.put, List.getElem_toArray, List.getElem_cons_succ, List.getElem_cons_zero, List.setIfInBounds_toArray, List.set_cons_zero, List.set_cons_succ]
        refine S_take (i := 11) (v := .agg #[.bool o.th, .slice o.D o.dt.length o.cd, .int .i64 o.sq, .slice o.C o.cl.length o.cc]) rfl rfl (by kernel_rfl) (by kernel_rfl) (by kernel_rfl) (fun _ _ _ h => h) (Or.inl ⟨by rfl, fun W hw => by obtain ⟨⟨x0, x1, x2, x3⟩, ⟨y0, y1, y2, y3⟩, z0, z1, z2, z3⟩ := HQ11.out W hw; go_simp⟩) hS ?_
        simp only [Act.put, List.getElem_toArray, List.getElem_cons_succ, List.getElem_cons_zero, List.setIfInBounds_toArray, List.set_cons_zero, List.set_cons_succ]
        refine L_one (j := 10) (by kernel_rfl) rfl (by rfl) ?_
        simp only [Act.put, List.getElem_toArray, List.getElem_cons_succ, List.getElem_cons_zero, List.setIfInBounds_toArray, List.set_cons_zero, List.set_cons_succ]
        refine wp_called (by go_simp) (HPP.out _ hS) ?_
        rintro e W14 ⟨xp, rfl, hvxp, hRxp, hblxp⟩
        have hS : Below W11.heap.size W11 W14 := hS.trans (hblxp.mono hS.size)
        have HSMxp := Lib.hid (HSM.out W14 xp hS hRxp (hvxp.trans HPV.out.1))
        refine ⟨_, rfl, hS, ?_⟩
        clear hvxp hRxp hblxp
        simp only [Act.put, List.getElem_toArray, List.getElem_cons_succ, List.getElem_cons_zero, List.setIfInBounds_toArray, List.set_cons_zero, List.set_cons_succ]
        refine L_one (j := 12) (by kernel_rfl) rfl (by rfl) ?_
        simp only [Act.put, List.getElem_toArray, List.getElem_cons_succ, List.getElem_cons_zero, List.setIfInBounds_toArray, List.set_cons_zero, List.set_cons_succ]
        refine wp_called (by go_simp) HSMxp.out ?_
        rintro e W15 ⟨rfl, hblxp⟩
        have hS : Below W11.heap.size W11 W15 := hS.trans (hblxp.mono hS.size)
        refine ⟨_, rfl, hS, ?_⟩
        clear hblxp
        simp only [Act.put, List.getElem_toArray, List.getElem_cons_succ, List.getElem_cons_zero, List.setIfInBounds_toArray, List.set_cons_zero, List.set_cons_succ]
        refine S_take (i := 13) (v := .bool true) rfl rfl (by kernel_rfl) (by kernel_rfl) (by kernel_rfl) (fun _ _ _ h => h) (Or.inl ⟨by rfl, fun W hw => by go_simp⟩) hS ?_
        simp only [Act.put, List.getElem_toArray, List.getElem_cons_succ, List.getElem_cons_zero, List.setIfInBounds_toArray, List.set_cons_zero, List.set_cons_succ]
        refine S_take (i := 14) (v := .bool true) rfl rfl (by kernel_rfl) (by kernel_rfl) (by kernel_rfl) (fun _ _ _ h => h) (Or.inl ⟨by rfl, fun W hw => by go_simp⟩) hS ?_
        simp only [Act.put, List.getElem_toArray, List.getElem_cons_succ, List.getElem_cons_zero, List.setIfInBounds_toArray, List.set_cons_zero, List.set_cons_succ]
        refine L_done (by kernel_rfl) ?_
        refine NoPanic.normal ?_
        have HE := Lib.hid (HP11.out W15 hS).2.2.2.2.2.2
        clear hS
        go_wp2
        go_ret
        exact ⟨rfl, HE.out⟩
  · obtain rfl : gb = false := by cases gb with
      | false => rfl
      | true => exact absurd (HGB.out.1 rfl) hgd
    have HG := Lib.hid hgd
    rw [HPV.out.1] at hput
    obtain ⟨-, rfl⟩ : ¬ Good o.v ∧ _ = _ := hput.resolve_left (fun h => hgd h.1)
    obtain rfl : h = none := HOB.out.2.2.2 hgd
    simp only [Option.getD_none, Option.isSome_none, List.length_nil, errV]
    clear hput hgd
    go_wp2
    have hS : Below w8.heap.size w8 w8.drew := below_drew9 w8
    refine any_beginL (fun W => Below w8.heap.size w8 W) 99 (by kernel_rfl) ?_
    refine S_take (i := 0) (v := .agg #[.bool p.th, .slice p.D p.dt.length p.cd, .int .i64 p.sq, .slice p.C p.cl.length p.cc]) rfl rfl (by kernel_rfl) (by kernel_rfl) (by kernel_rfl) (fun _ _ _ h => h) (Or.inl ⟨by rfl, fun W hw => by obtain ⟨⟨z0, z1, z2, z3⟩, z4, z5⟩ := HQ8.out W hw; go_simp⟩) hS ?_
    simp only [Act.put, List.getElem_toArray, List.getElem_cons_succ, List.getElem_cons_zero, List.setIfInBounds_toArray, List.set_cons_zero, List.set_cons_succ]
    refine S_take (i := 2) (v := .bool false) rfl rfl (by kernel_rfl) (by kernel_rfl) (by kernel_rfl) (fun _ _ _ h => h) (Or.inl ⟨by rfl, fun W hw => by go_simp⟩) hS ?_
    simp only [Act.put, List.getElem_toArray, List.getElem_cons_succ, List.getElem_cons_zero, List.setIfInBounds_toArray, List.set_cons_zero, List.set_cons_succ]
    refine L_one (j := 1) (by kernel_rfl) rfl (by rfl) ?_
    simp only [Act.put, List.getElem_toArray, List.getElem_cons_succ, List.getElem_cons_zero, List.setIfInBounds_toArray, List.set_cons_zero, List.set_cons_succ]
    refine wp_called (by go_simp) (HGD8.out _ hS) ?_
    rintro e W1 ⟨b9, rfl, hb9, hbl9⟩
    rw [HPV.out.1] at hb9
    obtain rfl : b9 = false := by cases b9 with
      | false => rfl
      | true => exact absurd (hb9.1 rfl) HG.out
    clear hb9
    have hS : Below w8.heap.size w8 W1 := hS.trans (hbl9.mono hS.size)
    refine ⟨_, rfl, hS, ?_⟩
    simp only [Act.put, List.getElem_toArray, List.getElem_cons_succ, List.getElem_cons_zero, List.setIfInBounds_toArray, List.set_cons_zero, List.set_cons_succ]
    refine S_take (i := 3) (v := .bool false) rfl rfl (by kernel_rfl) (by kernel_rfl) (by kernel_rfl) (fun _ _ _ h => h) (Or.inl ⟨by rfl, fun W hw => by go_simp⟩) hS ?_
    simp only [Act.put, List.getElem_toArray, List.getElem_cons_succ, List.getElem_cons_zero, List.setIfInBounds_toArray, List.set_cons_zero, List.set_cons_succ]
    refine S_take (i := 4) (v := .bool false) rfl rfl (by kernel_rfl) (by kernel_rfl) (by kernel_rfl) (fun _ _ _ h => h) (Or.inl ⟨by rfl, fun W hw => by go_simp⟩) hS ?_
    simp only [Act.put, List.getElem_toArray, List.getElem_cons_succ, List.getElem_cons_zero, List.setIfInBounds_toArray, List.set_cons_zero, List.set_cons_succ]
    refine S_take (i := 5) (v := .agg #[.bool p.th, .slice p.D p.dt.length p.cd, .int .i64 p.sq, .slice p.C p.cl.length p.cc]) rfl rfl (by kernel_rfl) (by kernel_rfl) (by kernel_rfl) (fun _ _ _ h => h) (Or.inl ⟨by rfl, fun W hw => by obtain ⟨⟨z0, z1, z2, z3⟩, z4, z5⟩ := HQ8.out W hw; go_simp⟩) hS ?_
    simp only [Act.put, List.getElem_toArray, List.getElem_cons_succ, List.getElem_cons_zero, List.setIfInBounds_toArray, List.set_cons_zero, List.set_cons_succ]
    refine S_take (i := 7) (v := .pointer (some ⟨w.heap.size, 0, none⟩)) rfl rfl (by kernel_rfl) (by kernel_rfl) (by kernel_rfl) (fun _ _ _ h => h) (Or.inl ⟨by rfl, fun W hw => by go_simp⟩) hS ?_
    simp only [Act.put, List.getElem_toArray, List.getElem_cons_succ, List.getElem_cons_zero, List.setIfInBounds_toArray, List.set_cons_zero, List.set_cons_succ]
    refine S_take (i := 8) (v := .bool o.th) rfl rfl (by kernel_rfl) (by kernel_rfl) (by kernel_rfl) (fun _ _ _ h => h) (Or.inl ⟨by rfl, fun W hw => by obtain ⟨⟨z0, z1, z2, z3⟩, z4, z5⟩ := HQ8.out W hw; go_simp⟩) hS ?_
    simp only [Act.put, List.getElem_toArray, List.getElem_cons_succ, List.getElem_cons_zero, List.setIfInBounds_toArray, List.set_cons_zero, List.set_cons_succ]
    refine S_take (i := 9) (v := .bool (!o.th)) rfl rfl (by kernel_rfl) (by kernel_rfl) (by kernel_rfl) (fun _ _ _ h => h) (Or.inl ⟨by rfl, fun W hw => by go_simp⟩) hS ?_
    simp only [Act.put, List.getElem_toArray, List.getElem_cons_succ, List.getElem_cons_zero, List.setIfInBounds_toArray, List.set_cons_zero, List.set_cons_succ]
    refine L_one (j := 6) (by kernel_rfl) rfl (by rfl) ?_
    simp only [Act.put, List.getElem_toArray, List.getElem_cons_succ, List.getElem_cons_zero, List.setIfInBounds_toArray, List.set_cons_zero, List.set_cons_succ]
    refine wp_called (by go_simp) (HEM.out _) ?_
    rintro e W2 ⟨rfl, hbl2⟩
    have hS : Below w8.heap.size w8 W2 := hS.trans (hbl2.mono hS.size)
    refine ⟨_, rfl, hS, ?_⟩
    simp only [Act.put, List.getElem_toArray, List.getElem_cons_succ, List.getElem_cons_zero, List.setIfInBounds_toArray, List.set_cons_zero, List.set_cons_succ]
    have HS2 := Lib.hid hS
    cases hth : o.th with
    | true =>
      refine S_take (i := 10) (v := .bool false) rfl rfl (by kernel_rfl) (by kernel_rfl) (by kernel_rfl) (fun _ _ _ h => h) (Or.inl ⟨by rfl, fun W hw => by go_simp⟩) hS ?_
      simp only [Act.put, List.getElem_toArray, List.getElem_cons_succ, List.getElem_cons_zero, List.setIfInBounds_toArray, List.set_cons_zero, List.set_cons_succ]
      refine S_take (i := 11) (v := undef) rfl rfl (by kernel_rfl) (by kernel_rfl) (by kernel_rfl) (fun _ _ _ h => h) (Or.inr ⟨by rfl, rfl⟩) hS ?_
      simp only [Act.put, List.getElem_toArray, List.getElem_cons_succ, List.getElem_cons_zero, List.setIfInBounds_toArray, List.set_cons_zero, List.set_cons_succ]
      refine S_take (i := 12) (v := undef) rfl rfl (by kernel_rfl) (by kernel_rfl) (by kernel_rfl) (fun _ _ _ h => h) (Or.inr ⟨by rfl, rfl⟩) hS ?_
      simp only [Act.put, List.getElem_toArray, List.getElem_cons_succ, List.getElem_cons_zero, List.setIfInBounds_toArray, List.set_cons_zero, List.set_cons_succ]
      refine S_take (i := 13) (v := undef) rfl rfl (by kernel_rfl) (by kernel_rfl) (by kernel_rfl) (fun _ _ _ h => h) (Or.inr ⟨by rfl, rfl⟩) hS ?_
      simp only [Act.put, List.getElem_toArray, List.getElem_cons_succ, List.getElem_cons_zero, List.setIfInBounds_toArray, List.set_cons_zero, List.set_cons_succ]
      refine S_take (i := 14) (v := undef) rfl rfl (by kernel_rfl) (by kernel_rfl) (by kernel_rfl) (fun _ _ _ h => h) (Or.inr ⟨by rfl, rfl⟩) hS ?_
      simp only [Act.put, List.getElem_toArray, List.getElem_cons_succ, List.getElem_cons_zero, List.setIfInBounds_toArray, List.set_cons_zero, List.set_cons_succ]
      refine S_take (i := 15) (v := .bool false) rfl rfl (by kernel_rfl) (by kernel_rfl) (by kernel_rfl) (fun _ _ _ h => h) (Or.inl ⟨by rfl, fun W hw => by go_simp⟩) hS ?_
      simp only [Act.put, List.getElem_toArray, List.getElem_cons_succ, List.getElem_cons_zero, List.setIfInBounds_toArray, List.set_cons_zero, List.set_cons_succ]
      refine S_take (i := 16) (v := .bool false) rfl rfl (by kernel_rfl) (by kernel_rfl) (by kernel_rfl) (fun _ _ _ h => h) (Or.inl ⟨by rfl, fun W hw => by go_simp⟩) hS ?_
      simp only [Act.put, List.getElem_toArray, List.getElem_cons_succ, List.getElem_cons_zero, List.setIfInBounds_toArray, List.set_cons_zero, List.set_cons_succ]
      refine S_take (i := 17) (v := .bool false) rfl rfl (by kernel_rfl) (by kernel_rfl) (by kernel_rfl) (fun _ _ _ h => h) (Or.inl ⟨by rfl, fun W hw => by go_simp⟩) hS ?_
      simp only [Act.put, List.getElem_toArray, List.getElem_cons_succ, List.getElem_cons_zero, List.setIfInBounds_toArray, List.set_cons_zero, List.set_cons_succ]
      refine L_done (by kernel_rfl) ?_
      refine NoPanic.normal ?_
      clear hbl9 hbl2 hS
      have HI := Lib.hid (is_any 2 2 W2)
      simp only [errV] at HI
      have hbel2 := (HP5.out W2 (HB8.out.trans (HS2.out.mono HB8.out.size))).2.2.2.2
      have HE := Lib.hid hbel2
      clear hbel2
      go_wp2_with fail
      refine HI.out.mono ?_
      rintro e W3 ⟨he, hw⟩
      subst he
      subst hw
      go_wp2
      go_ret
      exact ⟨rfl, HE.out⟩
    | false =>
      obtain ⟨z, hz⟩ : ∃ z : Bool, z = decide (o.cl.length = 0) := ⟨_, rfl⟩
      have hz2 : ((o.cl.length : Int) == 0) = z := by rw [hz, Bool.eq_iff_iff, beq_iff_eq, decide_eq_true_iff]; omega
      refine S_take (i := 10) (v := .bool true) rfl rfl (by kernel_rfl) (by kernel_rfl) (by kernel_rfl) (fun _ _ _ h => h) (Or.inl ⟨by rfl, fun W hw => by go_simp⟩) hS ?_
      simp only [Act.put, List.getElem_toArray, List.getElem_cons_succ, List.getElem_cons_zero, List.setIfInBounds_toArray, List.set_cons_zero, List.set_cons_succ]
      refine S_take (i := 11) (v := .pointer (some ⟨w.heap.size, 3, none⟩)) rfl rfl (by kernel_rfl) (by kernel_rfl) (by kernel_rfl) (fun _ _ _ h => h) (Or.inl ⟨by rfl, fun W hw => by go_simp⟩) hS ?_
      simp only [Act.put, List.getElem_toArray, List.getElem_cons_succ, List.getElem_cons_zero, List.setIfInBounds_toArray, List.set_cons_zero, List.set_cons_succ]
      refine S_take (i := 12) (v := .slice o.C o.cl.length o.cc) rfl rfl (by kernel_rfl) (by kernel_rfl) (by kernel_rfl) (fun _ _ _ h => h) (Or.inl ⟨by rfl, fun W hw => by obtain ⟨⟨z0, z1, z2, z3⟩, z4, z5⟩ := HQ8.out W hw; go_simp⟩) hS ?_
      simp only [Act.put, List.getElem_toArray, List.getElem_cons_succ, List.getElem_cons_zero, List.setIfInBounds_toArray, List.set_cons_zero, List.set_cons_succ]
      refine S_take (i := 13) (v := .int .i64 (o.cl.length : Int)) rfl rfl (by kernel_rfl) (by kernel_rfl) (by kernel_rfl) (fun _ _ _ h => h) (Or.inl ⟨by rfl, fun W hw => by go_simp⟩) hS ?_
      simp only [Act.put, List.getElem_toArray, List.getElem_cons_succ, List.getElem_cons_zero, List.setIfInBounds_toArray, List.set_cons_zero, List.set_cons_succ]
      refine S_take (i := 14) (v := .bool z) rfl rfl (by kernel_rfl) (by kernel_rfl) (by kernel_rfl) (fun _ _ _ h => h) (Or.inl ⟨by rfl, fun W hw => by go_simp⟩) hS ?_
      simp only [Act.put, List.getElem_toArray, List.getElem_cons_succ, List.getElem_cons_zero, List.setIfInBounds_toArray, List.set_cons_zero, List.set_cons_succ]
      refine S_take (i := 15) (v := .bool z) rfl rfl (by kernel_rfl) (by kernel_rfl) (by kernel_rfl) (fun _ _ _ h => h) (Or.inl ⟨by rfl, fun W hw => by go_simp⟩) hS ?_
      simp only [Act.put, List.getElem_toArray, List.getElem_cons_succ, List.getElem_cons_zero, List.setIfInBounds_toArray, List.set_cons_zero, List.set_cons_succ]
      refine S_take (i := 16) (v := .bool false) rfl rfl (by kernel_rfl) (by kernel_rfl) (by kernel_rfl) (fun _ _ _ h => h) (Or.inl ⟨by rfl, fun W hw => by go_simp⟩) hS ?_
      simp only [Act.put, List.getElem_toArray, List.getElem_cons_succ, List.getElem_cons_zero, List.setIfInBounds_toArray, List.set_cons_zero, List.set_cons_succ]
      refine S_take (i := 17) (v := .bool false) rfl rfl (by kernel_rfl) (by kernel_rfl) (by kernel_rfl) (fun _ _ _ h => h) (Or.inl ⟨by rfl, fun W hw => by go_simp⟩) hS ?_
      simp only [Act.put, List.getElem_toArray, List.getElem_cons_succ, List.getElem_cons_zero, List.setIfInBounds_toArray, List.set_cons_zero, List.set_cons_succ]
      refine L_done (by kernel_rfl) ?_
      refine NoPanic.normal ?_
      clear hbl9 hbl2 hS hz hz2
      have HI := Lib.hid (is_any 2 2 W2)
      simp only [errV] at HI
      have hbel2 := (HP5.out W2 (HB8.out.trans (HS2.out.mono HB8.out.size))).2.2.2.2
      have HE := Lib.hid hbel2
      clear hbel2
      go_wp2_with fail
      refine HI.out.mono ?_
      rintro e W3 ⟨he, hw⟩
      subst he
      subst hw
      go_wp2
      go_ret
      exact ⟨rfl, HE.out⟩
end Go.Proofs.Ytjepfeagbiceoaa
namespace Go.Proofs.Ytjepfeagbiceoaa.snapSees
open Go.ChangeShapes Go.WideShapes Go.ChangeAt Go.RowKit
set_option maxRecDepth 100000

set_option maxRecDepth 100000 in
theorem lifted (os : Os) (started : os.Started) (H : Type) (enc : TypeId × Value → H) :
    ReturnsInHanded {} Try.checked os 4 .any (Rows.snapSeesSpec.pre6 enc Try.prog Try.f4 Rows.snapSeesRow.domain false) (Rows.snapSeesSpec.post enc Try.prog Try.f4 false true false false) := by
  refine returnsInHanded_of_change (C := Try.checked) own started (by kernel_rfl) Try.func4
    (ChangeSpec.witness6 (enc := enc) (C := Try.checked) false ⟨#[], #[.agg #[.bool false, .slice none 0 0, .int .i64 0, .slice none 0 0], .int .i64 0], []⟩ 8 (by kernel_rfl) (by kernel_rfl) (by kernel_rfl) (by kernel_rfl)) ?_
  intro W base args ds gs before hval0 hW hcnd _
  have hval : ∀ (j : Nat) t v, Try.f4.params[j]? = some t → args[j]? = some v → Value.okWide Try.prog W .any base t v := hval0
  have hW' := hW
  obtain ⟨p, q, hA0, hV, rfl, hfz, hnd⟩ := hW
  have hA : DataW.TrodAll enc Try.prog W 0 (fun _ => true) true Try.f4.params.toList args.toList ds p := hA0
  rw [Try.params4] at hA hval
  obtain ⟨v0, vs0, d0, ds0, p0, q0, hargs, rfl, rfl, h0, r0⟩ := trodAll_cons hA
  obtain ⟨v1, vs1, d1, ds1, p1, q1, rfl, rfl, rfl, h1, r1⟩ := trodAll_cons r0
  obtain ⟨rfl, rfl, rfl⟩ := trodAll_nil r1
  obtain rfl : args = #[v0, v1] := by cases args; simp_all
  obtain ⟨rfl, rfl⟩ := trodVars_none hV
  have k0 := h0
  have lt0 : ∀ x ∈ p0, x.block < W.heap.size := by obtain ⟨m, hm⟩ := k0; exact DataW.trod_lt m _ _ _ hm
  obtain ⟨o0, rfl, r0'⟩ := open_oa (hval 0 25 v0 rfl rfl) h0
  have k1 := h1
  have lt1 : ∀ x ∈ p1, x.block < W.heap.size := by obtain ⟨m, hm⟩ := k1; exact DataW.trod_lt m _ _ _ hm
  obtain ⟨x1, rfl, m1, o1⟩ := open_i64 (hval 1 3 v1 rfl rfl) h1
  clear hA0 hval0
  refine (snapSees_walk o0 r0' x1).mono fun e W' ⟨he, bel⟩ => ?_
  subst he
  exact ⟨_, rfl, _, _, _, [], _, [], hW', trodAll_mk1 (shut_bool Try.underlying4 _), (trodAll_cons_mk (Below.trod laidOut (by kernel_rfl) (of_decide_eq_true (by kernel_rfl)) k0 bel lt0) (trodAll_cons_mk (Below.trod laidOut (by kernel_rfl) (of_decide_eq_true (by kernel_rfl)) k1 bel lt1) trodAll_mk0)), rfl, bel.frame _, fun h => by cases h⟩

theorem said : Rows.SnapSeesSaid :=
  OpenClaim.holds_of_wide 4 Try.f4 rfl rfl rfl rfl rfl rfl rfl ⟨rfl, rfl, rfl, rfl, rfl⟩ rfl rfl rfl rfl rfl (by kernel_rfl) Try.func4 (by kernel_rfl)
    (of_decide_eq_true (by kernel_rfl)) (by unfold Func.isWrapper; first | (rw [if_pos (by decide +kernel)]; kernel_rfl) | (rw [if_neg (by decide +kernel)]; exact ⟨rfl, rfl⟩))
    (fun os started H enc _ => lifted os started H enc)
end Go.Proofs.Ytjepfeagbiceoaa.snapSees
