/-
  What is done before an object changes. Conditions: the object lies where it is said to, and is of the call's own; the context reads as it is said to.
-/
import Derived.Test.YtjepfeagbiceoaaQf
import Derived.Test.YtjepfeagbiceoaaQg
namespace Go.Proofs.Ytjepfeagbiceoaa
open Go.RowKit Go.Shelf
attribute [local go_sem] Oper.semAt_some
set_option linter.unusedSimpArgs false
set_option linter.unusedVariables false
set_option maxRecDepth 100000
theorem row_noI {W : World} {base size : Nat} {e : TypeId} {v : Value} {n : Nat} {xs : List Value} (h : W.ownsRow base e size v n xs) {r : Nat} {o : Obj} (ho : W.heap[r]? = some o) (hc : o.isCells = false) : v.ownBlock ≠ some r := by
  intro e1
  rcases h.2 with ⟨rfl, _⟩ | ⟨g, cap, cur, rfl, _, hg, _⟩
  · cases e1
  · injection e1 with e1
    subst e1
    rw [ho] at hg
    injection hg with hg
    subst hg
    cases hc
theorem opIn_app_int {F : Fence} {nF : Nat} {w : World} {o : Oper} {a : Act} {K : Act → World → Prop} {Q : Exit → Act → World → Prop} (s x : Operand)
    (ho : o.op = .call { callee := .builtin .append, args := #[s, x], argTypes := #[26, 26] })
    (base : Nat) (v : Value) (n : Nat) (l : List Int) (hs : a.eval s = v) (hown : OwnI w base v n l)
    (B : Nat) (A : Option Addr) (c : Nat) (u : Int) (hx : a.eval x = .slice A 1 c) (hr : Ints w B A 1 [u]) (hn : n ≤ 1000000) (hbase : base ≤ w.heap.size)
    (h : ∀ v' w', OwnI w' base v' (n + 1) (l ++ [u]) → w.grownBy w' v.ownBlock → K (a.put o.dst v') w') : Oper.wpIn F nF Try.prog o a w K Q := by
  obtain ⟨i0, hi0, hz0, hz1, hz2⟩ := info_parts int_info
  obtain ⟨v', w', hrun, r1, r2, -⟩ := run_append_any (P := Try.prog) w base 26 o.type 3 i0 _ 1 8 Try.underlying26 hi0 hz0 hz1 hz2 rfl (by omega) v n (i64s l) hown B A 1 c (i64s [u]) hr (i64s_one _) (by simp only [maxLen]; omega) (by omega) hbase
  unfold Oper.wpIn
  refine ⟨?_, ?_⟩
  · simp [Oper.about, ho, resolve, Target.leads, Sem.run_pure]
  · rw [Oper.semAt_plain F _ _ (by rw [ho]; intro c hc'; cases hc')]
    simp [execOp, ho, resolve, invoke, builtin, hs, hx, hrun, Result.andThen]
    exact h v' w' (by unfold OwnI; rw [i64s_app]; exact r1) r2
theorem wpListIn_app_int {F : Fence} {nF : Nat} {w : World} {ops : Array Oper} {rest : List Oper} {o : Oper} {a : Act} {Q : Exit → Act → World → Prop} (hgd : o.guard = none) (s x : Operand)
    (ho : o.op = .call { callee := .builtin .append, args := #[s, x], argTypes := #[26, 26] })
    (base : Nat) (v : Value) (n : Nat) (l : List Int) (hs : a.eval s = v) (hown : OwnI w base v n l)
    (B : Nat) (A : Option Addr) (c : Nat) (u : Int) (hx : a.eval x = .slice A 1 c) (hr : Ints w B A 1 [u]) (hn : n ≤ 1000000) (hbase : base ≤ w.heap.size)
    (h : ∀ v' w', OwnI w' base v' (n + 1) (l ++ [u]) → w.grownBy w' v.ownBlock → wpListIn F nF Try.prog ops Q rest (a.put o.dst v') w') : wpListIn F nF Try.prog ops Q (o :: rest) a w :=
  wpListIn_plain hgd fun K' hK' => opIn_app_int s x ho base v n l hs hown B A c u hx hr hn hbase fun v' w' h1 h2 => hK' _ _ (h v' w' h1 h2)
def newer (q : Int) (pre : List (Nat × Int)) : List Int := (pre.map (·.2)).filter fun s => decide (q < s)
/-- what has been collected: the numbers above the object's newest snapshot -/
structure SeeAt (W w : World) (g : Nat) (sq : Int) (cc : Array Value) (v : Value) (L : List Int) : Prop where
  b0 : Blk W w.heap.size 104 #[.pointer (some ⟨g, 0, none⟩)]
  b1 : Blk W (w.heap.size + 1) 28 cc
  b2 : Blk W (w.heap.size + 1 + 1) 26 #[v]
  own : OwnI W (w.heap.size + 4) v L.length L
  bel : Below w.heap.size w W
theorem SeeAt.grown {W W' w : World} {g : Nat} {sq : Int} {cc : Array Value} {v : Value} {L : List Int} {row : Option Nat} (h : SeeAt W w g sq cc v L) (hg : W.grownBy W' row) (hr : ∀ r, row = some r → w.heap.size + 4 ≤ r ∧ ∃ o : Obj, W.heap[r]? = some o ∧ o.isCells = false) : SeeAt W' w g sq cc v L := by
  have hne : ∀ k, k < w.heap.size + 4 → some k ≠ row := fun k hk e => by have := (hr _ e.symm).1; omega
  refine ⟨h.b0.grown hg (hne _ (by omega)), h.b1.grown hg (hne _ (by omega)), h.b2.grown hg (hne _ (by omega)), World.ownsRow.kept h.own hg ?_, h.bel.grown hg h.bel.size (fun k e => by have := (hr _ e).1; omega)⟩
  rcases hv : v.ownBlock with _ | b
  · exact .inl rfl
  · right
    intro e1
    obtain ⟨-, o, ho, hc⟩ := hr b e1.symm
    exact row_noI h.own ho hc hv
theorem SeeAt.step {W W3 w : World} {g n0 : Nat} {sq x : Int} {cc : Array Value} {v v3 : Value} {L : List Int} (h : SeeAt W w g sq cc v L) (h3 : OwnI W3 (w.heap.size + 4) v3 (L.length + 1) (L ++ [x])) (hg : (W.alloc (.cells (i64s [x]).toArray 3)).grownBy W3 v.ownBlock) (hn0 : n0 = w.heap.size + 4) (hs : n0 ≤ W.heap.size) :
    KeepsFrom n0 W (W3.setCell ⟨w.heap.size + 1 + 1, 0, none⟩ v3) ∧ KeepsBut n0 (w.heap.size + 1 + 1) W (W3.setCell ⟨w.heap.size + 1 + 1, 0, none⟩ v3) ∧ SeeAt (W3.setCell ⟨w.heap.size + 1 + 1, 0, none⟩ v3) w g sq cc v3 (L ++ [x]) := by
  subst hn0
  have ho1 : OwnI (W.alloc (.cells (i64s [x]).toArray 3)) (w.heap.size + 4) v L.length L := World.ownsRow.alloc h.own _
  have hlo : ∀ k, v.ownBlock = some k → w.heap.size + 4 ≤ k := fun k hk => (World.ownsRow.lt ho1 k hk).1
  have hsz := h.bel.size
  have hne : ∀ k, k < w.heap.size + 4 → some k ≠ v.ownBlock := fun k hk e => by have := hlo _ e.symm; omega
  have hkeep : ∀ k, k < w.heap.size + 4 → W3.heap[k]? = W.heap[k]? := fun k hk => (hg.block k (by rw [World.size_alloc]; omega) (hne k hk)).trans (Below.heap_alloc W _ k (by omega))
  refine ⟨?_, fun k hk hn => (Below.heap_setCell _ _ _ _ hn).trans (hkeep k hk), ?_⟩
  · refine KeepsFrom.trans (KeepsFrom.trans ((KeepsOthers.alloc _ _).from _) ((KeepsOthers.of_grownBy hg (fun j o e ho => ?_)).from _)) ((KeepsOthers.setCell _ _ _).from _)
    cases hc : o.isCells with
    | true => rfl
    | false => exact absurd e (row_noI ho1 ho hc)
  · have b2 := h.b2.of (hkeep _ (by omega))
    refine ⟨(h.b0.of (hkeep _ (by omega))).far (by show w.heap.size ≠ w.heap.size + 1 + 1; omega) _, (h.b1.of (hkeep _ (by omega))).far (by show w.heap.size + 1 ≠ w.heap.size + 1 + 1; omega) _, by simpa using b2.set_ 0 v3, ?_, ((h.bel.alloc h.bel.size _).grown hg (by rw [World.size_alloc]; omega) (fun k e => by have := hlo _ e; omega)).setCell (p := ⟨w.heap.size + 1 + 1, 0, none⟩) (by show _ ≤ w.heap.size + 1 + 1; omega) _⟩
    rw [List.length_append, List.length_singleton]
    exact row_of h3 fun k hk => Below.heap_setCell _ _ _ _ (fun e => by
      have := row_over h3 k hk
      have e' : k = w.heap.size + 1 + 1 := e
      omega)
/-- what see comes to -/
def SeeTo (w : World) (g base : Nat) (q : OA) (c : CxV) (e : Ending) (w' : World) : Prop := e = .returned (.tuple #[]) ∧ ∃ q' : OA, q'.v = seeO q.v c ∧ Blk w' g 36 q'.cs ∧ q'.N w' base ∧ Only (g :: rowOf (.slice q.C 0 0)) w w'
theorem see_end {w W : World} {g base D : Nat} {q q2 : OA} {c : CxV} {cq : Int} (K : Blk W g 36 q2.cs) (hN : q2.N W base) (hO : Only (g :: rowOf (.slice q.C 0 0)) w W) (hD : W.heap[D]? = some (.deferred (some []))) (hDw : w.heap.size ≤ D) (hgl : g < w.heap.size) (i1 : -9223372036854775808 ≤ cq) (i2 : cq ≤ 9223372036854775807) (hv : (OA.v {q2 with sq := cq}) = seeO q.v c) :
    SeeTo w g base q c (.returned (.tuple #[])) ((W.setCell ⟨g, 2, none⟩ (.int .i64 cq)).putObj D (.deferred none)) := by
  have hkp := grownBy_putObj' (W.setCell ⟨g, 2, none⟩ (.int .i64 cq)) D (.deferred none)
  have hDg : g ≠ D := by omega
  refine ⟨rfl, {q2 with sq := cq}, hv, ?_, ?_, ?_⟩
  · have := (K.set_ 2 (.int .i64 cq)).grown hkp (fun e => by injection e with e; exact hDg e)
    simpa [OA.cs] using this
  · have h1 : q2.N ((W.setCell ⟨g, 2, none⟩ (.int .i64 cq)).putObj D (.deferred none)) base := hN.typed fun k t cs hb ht => by
      have hkg : k ≠ g := fun e => by
        subst e
        refine hb.ne_ K ?_ rfl
        rcases ht with rfl | rfl | rfl <;> decide
      have hkD : k ≠ D := fun e => by
        subst e
        unfold Blk at hb
        rw [hD] at hb
        cases hb
      exact (hkp.block k (by simpa using hb.lt) (fun e => by injection e with e; exact hkD e)).trans (Below.heap_setCell _ _ _ _ hkg)
    exact ⟨h1.dt, h1.ok, h1.row, h1.cl, i1, i2, h1.dD, h1.dS⟩
  · exact (hO.setCell (.inl (by simp)) _).grown hkp (fun k e => by injection e with e; exact .inr (by omega))
/-- a clone more, of what the head is -/
theorem see_step {w W w1 w3 w4 : World} {g base : Nat} {q : OA} {fr : List Int} {A1 D2 A4 : Option Addr} {c1 c2 c4 : Nat} {cg : Array Value} (hQ : q.N w base) (hbase : base ≤ w.heap.size) (hbel : Below w.heap.size w W)
    (hfr : OwnI W (w.heap.size + 4) (.slice A1 fr.length c1) fr.length fr) (hfi : ∀ s ∈ fr, -9223372036854775808 ≤ s ∧ s ≤ 9223372036854775807) (hb1 : Below W.heap.size W w1) (hD : Own w1 W.heap.size (.slice D2 q.dt.length c2) q.dt.length q.dt)
    (h3 : OwnC 79 w3 base (.slice A4 (q.cl ++ [(CA.mk fr q.dt A1 c1 D2 c2)]).length c4) (q.cl ++ [(CA.mk fr q.dt A1 c1 D2 c2)])) (g3 : (w1.alloc (.cells (CA.cells (CA.mk fr q.dt A1 c1 D2 c2)).toArray 79)).grownBy w3 (Value.slice q.C q.cl.length q.cc).ownBlock)
    (K : Blk w g 36 cg) (h4 : Only [g] w3 w4) :
    OA.N ⟨q.th, q.dt, q.D, q.cd, q.sq, A4, c4, q.cl ++ [(CA.mk fr q.dt A1 c1 D2 c2)]⟩ w4 base ∧ Only (g :: rowOf (.slice q.C 0 0)) w w4 := by
  have hNW := hQ.below hbel
  have hz := hbel.size
  have hz1 := hb1.size
  have hz3 := g3.size
  rw [World.size_alloc] at hz3
  have hgl := K.lt
  have K1 : Blk w1 g 36 cg := (K.of (hbel.block g hgl)).of (hb1.block g (by omega))
  have hrowC : (Value.slice q.C q.cl.length q.cc).ownBlock = (Value.slice q.C 0 0).ownBlock := by cases q.C <;> rfl
  rw [hrowC] at g3
  have hcl : ∀ k, (Value.slice q.C 0 0).ownBlock = some k → base ≤ k ∧ k < w.heap.size ∧ ∃ cs, Blk w1 k 79 cs := fun k hk => by
    obtain ⟨x1, x2, cs, x3⟩ := OA.P.cU hQ k (mem_rowOf.2 hk)
    exact ⟨x1, x2, cs, (x3.of (hbel.block k x2)).of (hb1.block k (by omega))⟩
  have hkeep1 : ∀ k t cs, Blk w1 k t cs → t = 5 ∨ t = 3 → w4.heap[k]? = w1.heap[k]? := fun k t cs hk ht => by
    have hkl := hk.lt
    have e1 : w3.heap[k]? = w1.heap[k]? := (g3.block k (by rw [World.size_alloc]; omega) (fun e => by
      obtain ⟨-, -, cs', hb⟩ := hcl k e.symm
      refine hk.ne_ hb ?_ rfl
      rcases ht with rfl | rfl <;> decide)).trans (Below.heap_alloc w1 _ k hkl)
    refine (h4.block k (by omega) (fun hm => ?_)).trans e1
    simp at hm
    subst hm
    refine hk.ne_ K1 ?_ rfl
    rcases ht with rfl | rfl <;> decide
  have hkeepW : ∀ k t cs, Blk W k t cs → t = 5 ∨ t = 3 → w4.heap[k]? = W.heap[k]? := fun k t cs hk ht => by
    have e := hb1.block k hk.lt
    exact (hkeep1 k t cs (hk.of e) ht).trans e
  have hCN : ∀ {c' : CA} {b : Nat}, c'.N W b → c'.N w4 b := fun hc' => hc'.of (fun k hm => by obtain ⟨_, _, cs, hb⟩ := hc'.sU k hm; exact hkeepW k _ cs hb (.inr rfl)) (fun k hm => by obtain ⟨_, _, cs, hb⟩ := hc'.dU k hm; exact hkeepW k _ cs hb (.inl rfl))
  have hnew : CA.N (CA.mk fr q.dt A1 c1 D2 c2) w4 base :=
    ⟨OwnI.weaken (row_of hfr fun k hk => by obtain ⟨cs, hb⟩ := own_ty hfr hk; exact hkeepW k _ cs hb (.inr rfl)) (by omega), Own.weaken (row_of hD fun k hk => by obtain ⟨cs, hb⟩ := own_ty hD hk; exact hkeep1 k _ cs hb (.inl rfl)) (by omega), hQ.ok, hfi⟩
  refine ⟨⟨row_of hNW.dt fun k hk => by obtain ⟨cs, hb⟩ := own_ty hNW.dt hk; exact hkeepW k _ cs hb (.inl rfl), hQ.ok, ?_, fun c' hc' => ?_, hQ.q1, hQ.q2, ?_, ?_⟩, ?_⟩
  · rw [List.append_nil]
    exact row_of h3 fun k hk => h4.block k (row_under h3 k hk) (fun hm => by
      simp at hm
      subst hm
      obtain ⟨cs, hb⟩ := own_ty h3 hk
      refine hb.ne_ (K1.of ((g3.block _ (by rw [World.size_alloc]; omega) (fun e => ?_)).trans (Below.heap_alloc w1 _ _ (by omega)))) (by decide) rfl
      obtain ⟨-, -, cs', hb'⟩ := hcl _ e.symm
      exact hb'.ne_ K1 (by decide) rfl)
  · rcases List.mem_append.1 hc' with hm | hm
    · exact hCN (hNW.cl c' hm)
    · simp at hm
      subst hm
      exact hnew
  · have := hQ.dD.snoc (x := CA.dR (CA.mk fr q.dt A1 c1 D2 c2)) fun a ha k hk hx => by
      have h5 : W.heap.size ≤ k := by
        rw [CA.dR, row_slice _ 0 0 q.dt.length c2] at hx
        exact row_over hD k hx
      rcases List.mem_cons.1 ha with rfl | ha
      · have := (OA.P.dU hQ k hk).2.1; omega
      · obtain ⟨c', hc', rfl⟩ := List.mem_map.1 ha
        have := ((hQ.cl c' hc').dU k hk).2.1; omega
    simpa using this
  · have := hQ.dS.snoc (x := CA.sR (CA.mk fr q.dt A1 c1 D2 c2)) fun a ha k hk hx => by
      have h5 : w.heap.size + 4 ≤ k := by
        rw [CA.sR, row_slice _ 0 0 fr.length c1] at hx
        exact row_over hfr k hx
      obtain ⟨c', hc', rfl⟩ := List.mem_map.1 ha
      have := ((hQ.cl c' hc').sU k hk).2.1; omega
    simpa using this
  · have o1 : Only (g :: rowOf (.slice q.C 0 0)) w w1 := Only.of_below (hbel.trans (hb1.mono hz)) _
    have o2 := (o1.alloc (.cells (CA.cells (CA.mk fr q.dt A1 c1 D2 c2)).toArray 79)).grown g3 (fun k e => .inl (by simp [mem_rowOf.2 e]))
    refine o2.trans h4 (fun k hk => .inl (by simp at hk; subst hk; simp))
set_option maxHeartbeats 8000000 in
theorem see_in {w : World} {g base : Nat} (q : OA) (c : XA) (hg : Blk w g 36 q.cs) (hq : q.N w base) (hS : q.Sm) (hc : c.R w) (hb : base ≤ w.heap.size) (h16 : c.sn.length ≤ 1000) : CallsIn Fence.wide 5 Try.prog 95 #[.pointer (some ⟨g, 0, none⟩), .agg c.cells] w (SeeTo w g base q c.v) := by
  obtain ⟨cq, sn, S, cs⟩ := c
  have hro : Fence.wide.round = none := rfl
  have h1 : 1 ≤ 5 := by omega
  have HC := Lib.hid hc
  have HG := Lib.hid hg
  have HQ := Lib.hid hq
  have HSM := Lib.hid hS
  have hgl := hg.lt
  clear hc hg hq hS
  dsimp only at h16
  unfold XA.cells
  dsimp only
  refine callsIn_of_wp_marks Try.func95 rfl trivial ?_ hro
  simp only [Try.ntmps95, List.size_toArray, List.length_cons, List.length_nil, Nat.reduceAdd, Nat.reduceSub, Array.replicate_succ, Array.replicate_zero, List.push_toArray, List.append_toArray, List.nil_append, List.cons_append]
  gi_wp2_with (refine ⟨trivial, ?_⟩; gi_at_call 100; refine (callsIn_wide.2 (backwardI_any _ _ _ _)).mono ?_; rintro e w' ⟨rfl, rfl⟩)
  obtain ⟨W0, hW0⟩ : ∃ W0, W0 = ((((w.alloc (.cells #[.pointer (some ⟨g, 0, none⟩)] 104)).alloc (.cells #[.int .i64 cq, .slice S sn.length cs] 28)).alloc (.cells #[.slice none 0 0] 26)).alloc (.cells #[.slice S sn.length cs] 26)) := ⟨_, rfl⟩
  have hB0 : Below w.heap.size w W0 := by rw [hW0]; exact ((((Below.refl _ w).alloc (Nat.le_refl _) _).alloc (by simp) _).alloc (by simp; omega) _).alloc (by simp; omega) _
  have b0 : Blk W0 w.heap.size 104 #[.pointer (some ⟨g, 0, none⟩)] := by rw [hW0]; exact (((Blk.new w _ _).alloc _).alloc _).alloc _
  have b1 : Blk W0 (w.heap.size + 1) 28 #[.int .i64 cq, .slice S sn.length cs] := by
    have := ((Blk.new (w.alloc (.cells #[.pointer (some ⟨g, 0, none⟩)] 104)) 28 #[.int .i64 cq, .slice S sn.length cs]).alloc (.cells #[.slice none 0 0] 26)).alloc (.cells #[.slice S sn.length cs] 26)
    rw [hW0]
    simpa using this
  have b2 : Blk W0 (w.heap.size + 1 + 1) 26 #[.slice none 0 0] := by
    have := (Blk.new ((w.alloc (.cells #[.pointer (some ⟨g, 0, none⟩)] 104)).alloc (.cells #[.int .i64 cq, .slice S sn.length cs] 28)) 26 #[.slice none 0 0]).alloc (.cells #[.slice S sn.length cs] 26)
    rw [hW0]
    simpa using this
  have b3 : Blk W0 (w.heap.size + 1 + 1 + 1) 26 #[.slice S sn.length cs] := by
    have := Blk.new (((w.alloc (.cells #[.pointer (some ⟨g, 0, none⟩)] 104)).alloc (.cells #[.int .i64 cq, .slice S sn.length cs] 28)).alloc (.cells #[.slice none 0 0] 26)) 26 #[.slice S sn.length cs]
    rw [hW0]
    simpa using this
  have hsz : W0.heap.size = w.heap.size + 4 := by rw [hW0]; simp
  have hsn : Ints W0 w.heap.size S sn.length sn := Reads.below HC.out.sn hB0
  rw [← hW0]
  clear hW0
  have HSN := Lib.hid hsn
  have HS := Lib.hid hsz
  have hrev : (backI sn sn.length).map (·.2) = sn.reverse := by
    rw [backI_map sn sn.length (Nat.le_refl _), List.take_of_length_le (by simp)]
  have HREV := Lib.hid hrev
  clear hrev
  have hx3 : ∀ (W : World), Blk W (w.heap.size + 1 + 1 + 1) 26 #[.slice S sn.length cs] → W.cell? ⟨w.heap.size + 1 + 1 + 1, 0, none⟩ = some (.slice S sn.length cs) := fun W h => h.cell 0
  refine wpIn_rangeFunc_ownH hro h1 (gf := 101) (lb := #[.pointer (some ⟨w.heap.size + 1 + 1 + 1, 0, none⟩)]) rfl trivial (enters_of Try.func101 (by kernel_rfl) rfl)
    (backI_stops Fence.wide 4 (fun _ => trivial) hro (by omega) (w.heap.size + 1 + 1 + 1) W0.heap.size (w.heap.size + 1 + 1) S cs sn (by omega) W0 (by omega) (by omega) (by omega) (Nat.le_refl _) (hx3 _ b3) (Ints.more HSN.out (by omega))) (fun h h' => KeepsBut.trans h h') (keepsBut_b (Nat.le_refl _)) (Below.refl _ _) (fun _ => rfl)
    (fun pre W => ∃ v, SeeAt W w g q.sq #[.int .i64 cq, .slice S sn.length cs] v (newer q.sq pre))
    (fun c pre W => False)
    ?own1 ?own2 ⟨_, b0, b1, b2, OwnI.nil _ _, hB0⟩
    (fun x a' W => a' = { tmps := #[.pointer (some ⟨g, 0, none⟩), .agg #[.int .i64 cq, .slice S sn.length cs], .pointer (some ⟨w.heap.size, 0, none⟩), .pointer (some ⟨w.heap.size + 1, 0, none⟩), .pointer (some ⟨w.heap.size + 1 + 1, 0, none⟩), undef, .int .i64 x.2, .pointer (some ⟨w.heap.size + 1, 1, none⟩), .slice S sn.length cs, .func (.func 101) #[] #[.pointer (some ⟨w.heap.size + 1 + 1 + 1, 0, none⟩)], .int .i64 (x.1 : Int), .int .i64 x.2, undef, undef, undef, undef, undef, undef, undef, undef, undef, undef, undef, undef, undef, undef, undef, undef, undef, undef, undef, undef, undef, undef, undef, undef, undef, undef, undef, undef, undef, undef, undef, undef, undef, undef, undef, undef, undef, undef, undef, undef], defers := [] })
    (fun _ _ => ownFrom_pure _ _) ?assign ?body ?done ?stop
  case own1 =>
    rintro pre W W' row ⟨v, hv⟩ hg hr
    exact ⟨v, hv.grown hg fun r e => ⟨by have := (hr r e).1; have := HS.out; omega, (hr r e).2⟩⟩
  case own2 =>
    rintro c pre W W' row h hg hr
    exact h
  case assign =>
    rintro l pre x W K hI hK
    have HK := Lib.hid hK
    have HI := Lib.hid hI
    clear hK hI hsz
    unfold encI
    gi_wp2
    exact HK.out _ _ (KeepsFrom.refl _ _) (KeepsBut.refl _ _ _) HI.out rfl
  case body =>
    rintro l pre x a' W hl0 ⟨rl, hrl⟩ ⟨v, hv⟩ rfl hlt
    obtain ⟨xi, xv⟩ := x
    have hl : W0.heap.size ≤ W.heap.size := by have := (Array.getElem?_eq_some_iff.1 hrl).1; omega
    clear hrl hl0
    have c0 : W.cell? ⟨w.heap.size, 0, none⟩ = some (.pointer (some ⟨g, 0, none⟩)) := hv.b0.cell 0
    have cg : W.cell? ⟨g, 2, none⟩ = some (.int .i64 q.sq) := (HG.out.of (hv.bel.block _ hgl)).cell 2
    have c2 : W.cell? ⟨w.heap.size + 1 + 1, 0, none⟩ = some v := hv.b2.cell 0
    have HV := Lib.hid hv
    obtain ⟨A1, c1, rfl⟩ := hv.own.form2
    have hsn2 := HSN.out
    have hpl : (newer q.sq pre).length ≤ 1000 := by
      have h5 : (newer q.sq pre).length ≤ pre.length := by unfold newer; refine Nat.le_trans (List.length_filter_le _ _) (by simp)
      omega
    have HL := Lib.hid (And.intro hl hpl)
    clear hv hsn2 hlt hsz hl hpl
    by_cases m1 : q.sq < xv
    · have d1 : decide (q.sq < xv) = true := decide_eq_true m1
      have hnew : newer q.sq (pre ++ [(xi, xv)]) = newer q.sq pre ++ [xv] := by simp [newer, List.filter_append, m1]
      have HN := Lib.hid hnew
      clear hnew
      gi_wp2_with (refine wpListIn_app_int rfl (.tmp 18) (.tmp 20) rfl (w.heap.size + 4) (.slice A1 (newer q.sq pre).length c1) (newer q.sq pre).length (newer q.sq pre) rfl (World.ownsRow.alloc HV.out.own _) _ (some ⟨W.heap.size, 0, none⟩) 1 xv rfl (Reads.new W [Value.int .i64 xv] 3 (0, 0)) (by have := HL.out.2; omega) (by rw [World.size_alloc]; have := HV.out.bel.size; have := HL.out.1; have := HS.out; omega) ?_
                   intro v3 W3 h3 g3
                   obtain ⟨A3, c3', rfl⟩ := OwnI.form2 h3
                   have hst := HV.out.step (n0 := W0.heap.size) (g := g) h3 g3 HS.out HL.out.1
                   have c3 : W3.cell? ⟨w.heap.size + 1 + 1, 0, none⟩ = some (.slice A1 (newer q.sq pre).length c1) := by
                     have h6 := HV.out.b2.alloc (.cells (i64s [xv]).toArray 3)
                     exact (h6.grown g3 (fun e => by have := (World.ownsRow.lt HV.out.own _ e.symm).1; omega)).cell 0
                   have f3 : W3.frozen? ⟨w.heap.size + 1 + 1, 0, none⟩ = false := by
                     have h6 := HV.out.b2.alloc (.cells (i64s [xv]).toArray 3)
                     exact (h6.grown g3 (fun e => by have := (World.ownsRow.lt HV.out.own _ e.symm).1; omega)).frozen 0
                   have HST := Lib.hid hst
                   clear hst h3 g3)
      refine ⟨HST.out.1, HST.out.2.1, .slice A3 ((newer q.sq pre).length + 1) c3', ?_⟩
      rw [HN.out]
      exact HST.out.2.2
    · have d1 : decide (q.sq < xv) = false := decide_eq_false m1
      have hnew : newer q.sq (pre ++ [(xi, xv)]) = newer q.sq pre := by simp [newer, List.filter_append, m1]
      have HN := Lib.hid hnew
      clear hnew
      gi_wp2
      refine ⟨KeepsFrom.refl _ _, KeepsBut.refl _ _ _, .slice A1 (newer q.sq pre).length c1, ?_⟩
      rw [HN.out]
      exact HV.out
  case stop =>
    rintro D c pre W hD ⟨k, hk, rfl⟩ hf hK
    exact hf.elim
  case done =>
    rintro D ys W hD rfl ⟨v, hv⟩ hK
    obtain ⟨fr, hfr⟩ : ∃ fr, fr = newer q.sq (backI sn sn.length) := ⟨_, rfl⟩
    have hF : fr = freshI q.sq (XA.v ⟨cq, sn, S, cs⟩) := by rw [hfr]; unfold newer freshI; rw [HREV.out]; rfl
    rw [← hfr] at hv
    obtain ⟨A1, c1, rfl⟩ := hv.own.form2
    have hDw : w.heap.size + 4 ≤ D := by have := HS.out; omega
    have KG := HG.out.of (hv.bel.block _ hgl)
    have HN := Lib.hid (HQ.out.below hv.bel)
    have HF := Lib.hid hF
    have HFI : Hid (∀ s ∈ fr, -9223372036854775808 ≤ s ∧ s ≤ 9223372036854775807) := Lib.hid fun s hs => by
      rw [hF] at hs
      exact HC.out.i1 s (fresh_mem.1 hs).1
    have hfl : fr.length ≤ 1000 := by
      rw [hF]
      unfold freshI
      refine Nat.le_trans (List.length_filter_le _ _) ?_
      simpa [XA.v] using h16
    obtain ⟨nf, hnf⟩ : ∃ nf, nf = fr.length := ⟨_, rfl⟩
    have HNF := Lib.hid hnf
    have HV := Lib.hid hv
    have HDD := Lib.hid (And.intro hK hDw)
    have c0 : W.cell? ⟨w.heap.size, 0, none⟩ = some (.pointer (some ⟨g, 0, none⟩)) := hv.b0.cell 0
    have cc1 : W.cell? ⟨w.heap.size + 1, 0, none⟩ = some (.int .i64 cq) := hv.b1.cell 0
    have c2 : W.cell? ⟨w.heap.size + 1 + 1, 0, none⟩ = some (.slice A1 nf c1) := by rw [hnf]; exact hv.b2.cell 0
    have g0 : W.cell? ⟨g, 0, none⟩ = some (.bool q.th) := KG.cell 0
    have fg2 : W.frozen? ⟨g, 2, none⟩ = false := KG.frozen 2
    have cg2 : W.cell? ⟨g, 2, none⟩ = some (.int .i64 q.sq) := KG.cell 2
    have HK := Lib.hid KG
    have hq1 := HC.out.q1
    have hq2 := HC.out.q2
    have HI := Lib.hid (And.intro hq1 hq2)
    clear hfr hF hnf hv hK hDw hq1 hq2 b0 b1 b2 b3 hsn hsz hx3 KG
    by_cases hno : q.th = false ∨ nf = 0
    · have HFIN : Hid (SeeTo w g base q (XA.v ⟨cq, sn, S, cs⟩) (.returned (.tuple #[])) ((W.setCell ⟨g, 2, none⟩ (.int .i64 cq)).putObj D (.deferred none))) := Lib.hid (by
        refine see_end (q2 := q) HK.out HN.out (Only.of_below HV.out.bel _) HDD.out.1 (by have := HDD.out.2; omega) hgl HI.out.1 HI.out.2 ?_
        have : newCl q.v (XA.v ⟨cq, sn, S, cs⟩) = [] := by
          unfold newCl
          rw [if_neg]
          rintro ⟨h1, h2⟩
          rcases hno with h | h
          · have h3 : q.v.th = q.th := rfl
            rw [h3, h] at h1
            cases h1
          · apply h2
            have h3 : freshI q.v.sq (XA.v ⟨cq, sn, S, cs⟩) = fr := HF.out.symm
            rw [h3]
            exact List.eq_nil_of_length_eq_zero (by rw [← HNF.out, h])
        unfold seeO
        rw [this, List.append_nil]
        rfl)
      have hK5 : (W.setCell ⟨g, 2, none⟩ (.int .i64 cq)).heap[D]? = some (.deferred (some [])) := (Below.heap_setCell _ _ _ _ (by have := HDD.out.2; show D ≠ g; omega)).trans HDD.out.1
      have HK5 := Lib.hid hK5
      clear hK5
      rcases hno with hth | hz
      · rw [hth] at g0
        clear hth hD
        gi_wp2
        refine ⟨by simp, .inl ⟨_, _, rfl, run_takeDeferred HK5.out, ?_⟩⟩
        exact ⟨_, results_none rfl _ _ _, HFIN.out⟩
      · have d1 : decide ((0 : Int) < (nf : Int)) = false := decide_eq_false (by omega)
        have d1n : decide (0 < nf) = false := decide_eq_false (by omega)
        cases hth : q.th with
        | false =>
          rw [hth] at g0
          clear hth hD
          gi_wp2
          refine ⟨by simp, .inl ⟨_, _, rfl, run_takeDeferred HK5.out, ?_⟩⟩
          exact ⟨_, results_none rfl _ _ _, HFIN.out⟩
        | true =>
          rw [hth] at g0
          clear hth hD
          gi_wp2
          refine ⟨by simp, .inl ⟨_, _, rfl, run_takeDeferred HK5.out, ?_⟩⟩
          exact ⟨_, results_none rfl _ _ _, HFIN.out⟩
    have hth : q.th = true := by
      cases h : q.th with
      | true => rfl
      | false => exact absurd (.inl h) hno
    have hnz : 0 < nf := by
      rcases Nat.eq_zero_or_pos nf with h | h
      · exact absurd (.inr h) hno
      · exact h
    have d1 : decide ((0 : Int) < (nf : Int)) = true := decide_eq_true (by omega)
    have d1n : decide (0 < nf) = true := decide_eq_true (by omega)
    rw [hth] at g0
    have HTH := Lib.hid hth
    have HNZ := Lib.hid hnz
    clear hno hth hnz hD
    gi_wp2
    refine wpIn_wide.2 ?_
    have K7 : Blk W.drew g 36 #[.bool true, .slice q.D q.dt.length q.cd, .int .i64 q.sq, .slice q.C q.cl.length q.cc] := by have := HK.out.drew; unfold OA.cs at this; rw [HTH.out] at this; exact this
    have HCC : Hid (∀ w' : World, (Blk w' g 36 #[.bool true, .slice q.D q.dt.length q.cd, .int .i64 q.sq, .slice q.C q.cl.length q.cc] ∧ Blk w' w.heap.size 104 #[.pointer (some ⟨g, 0, none⟩)] ∧ Blk w' (w.heap.size + 1 + 1) 26 #[.slice A1 nf c1]) → w'.cell? ⟨w.heap.size, 0, none⟩ = some (.pointer (some ⟨g, 0, none⟩)) ∧ w'.cell? ⟨w.heap.size + 1 + 1, 0, none⟩ = some (.slice A1 nf c1) ∧ w'.cell? ⟨g, 3, none⟩ = some (.slice q.C q.cl.length q.cc) ∧ w'.cell? ⟨g, 1, none⟩ = some (.slice q.D q.dt.length q.cd)) := Lib.hid fun w' h => ⟨h.2.1.cell 0, h.2.2.cell 0, h.1.cell 3, h.1.cell 1⟩
    have hS7 : Blk W.drew g 36 #[.bool true, .slice q.D q.dt.length q.cd, .int .i64 q.sq, .slice q.C q.cl.length q.cc] ∧ Blk W.drew w.heap.size 104 #[.pointer (some ⟨g, 0, none⟩)] ∧ Blk W.drew (w.heap.size + 1 + 1) 26 #[.slice A1 nf c1] := ⟨K7, HV.out.b0.drew, by rw [HNF.out]; exact HV.out.b2.drew⟩
    clear c0 cc1 c2 g0 fg2 cg2 d1
    refine any_beginL (fun w' => Blk w' g 36 #[.bool true, .slice q.D q.dt.length q.cd, .int .i64 q.sq, .slice q.C q.cl.length q.cc] ∧ Blk w' w.heap.size 104 #[.pointer (some ⟨g, 0, none⟩)] ∧ Blk w' (w.heap.size + 1 + 1) 26 #[.slice A1 nf c1]) 16 (by kernel_rfl) ?_
    refine L_take (i := 0) (v := .pointer (some ⟨g, 0, none⟩)) rfl rfl (by kernel_rfl) (by kernel_rfl) (by kernel_rfl) (by kernel_rfl) (fun _ _ _ h => h) (Or.inl ⟨by rfl, fun w hw => by have q1 := (HCC.out w hw).1; go_simp⟩) hS7 ?_
    simp only [Act.put, List.getElem_toArray, List.getElem_cons_succ, List.getElem_cons_zero, List.setIfInBounds_toArray, List.set_cons_zero, List.set_cons_succ]
    refine L_take (i := 1) (v := .pointer (some ⟨g, 0, none⟩)) rfl rfl (by kernel_rfl) (by kernel_rfl) (by kernel_rfl) (by kernel_rfl) (fun _ _ _ h => h) (Or.inl ⟨by rfl, fun w hw => by have q1 := (HCC.out w hw).1; go_simp⟩) hS7 ?_
    simp only [Act.put, List.getElem_toArray, List.getElem_cons_succ, List.getElem_cons_zero, List.setIfInBounds_toArray, List.set_cons_zero, List.set_cons_succ]
    refine L_take (i := 2) (v := .pointer (some ⟨g, 0, none⟩)) rfl rfl (by kernel_rfl) (by kernel_rfl) (by kernel_rfl) (by kernel_rfl) (fun _ _ _ h => h) (Or.inl ⟨by rfl, fun w hw => by kernel_rfl⟩) hS7 ?_
    simp only [Act.put, List.getElem_toArray, List.getElem_cons_succ, List.getElem_cons_zero, List.setIfInBounds_toArray, List.set_cons_zero, List.set_cons_succ]
    refine L_take (i := 3) (v := .pointer (some ⟨g, 3, none⟩)) rfl rfl (by kernel_rfl) (by kernel_rfl) (by kernel_rfl) (by kernel_rfl) (fun _ _ _ h => h) (Or.inl ⟨by rfl, fun w hw => by go_simp⟩) hS7 ?_
    simp only [Act.put, List.getElem_toArray, List.getElem_cons_succ, List.getElem_cons_zero, List.setIfInBounds_toArray, List.set_cons_zero, List.set_cons_succ]
    refine L_take (i := 4) (v := .slice q.C q.cl.length q.cc) rfl rfl (by kernel_rfl) (by kernel_rfl) (by kernel_rfl) (by kernel_rfl) (fun _ _ _ h => h) (Or.inl ⟨by rfl, fun w hw => by have q1 := (HCC.out w hw).2.2.1; go_simp⟩) hS7 ?_
    simp only [Act.put, List.getElem_toArray, List.getElem_cons_succ, List.getElem_cons_zero, List.setIfInBounds_toArray, List.set_cons_zero, List.set_cons_succ]
    refine L_take (i := 5) (v := .slice A1 nf c1) rfl rfl (by kernel_rfl) (by kernel_rfl) (by kernel_rfl) (by kernel_rfl) (fun _ _ _ h => h) (Or.inl ⟨by rfl, fun w hw => by have q1 := (HCC.out w hw).2.1; go_simp⟩) hS7 ?_
    simp only [Act.put, List.getElem_toArray, List.getElem_cons_succ, List.getElem_cons_zero, List.setIfInBounds_toArray, List.set_cons_zero, List.set_cons_succ]
    refine L_take (i := 6) (v := .pointer (some ⟨g, 0, none⟩)) rfl rfl (by kernel_rfl) (by kernel_rfl) (by kernel_rfl) (by kernel_rfl) (fun _ _ _ h => h) (Or.inl ⟨by rfl, fun w hw => by have q1 := (HCC.out w hw).1; go_simp⟩) hS7 ?_
    simp only [Act.put, List.getElem_toArray, List.getElem_cons_succ, List.getElem_cons_zero, List.setIfInBounds_toArray, List.set_cons_zero, List.set_cons_succ]
    refine L_take (i := 7) (v := .pointer (some ⟨g, 0, none⟩)) rfl rfl (by kernel_rfl) (by kernel_rfl) (by kernel_rfl) (by kernel_rfl) (fun _ _ _ h => h) (Or.inl ⟨by rfl, fun w hw => by kernel_rfl⟩) hS7 ?_
    simp only [Act.put, List.getElem_toArray, List.getElem_cons_succ, List.getElem_cons_zero, List.setIfInBounds_toArray, List.set_cons_zero, List.set_cons_succ]
    refine L_take (i := 8) (v := .pointer (some ⟨g, 1, none⟩)) rfl rfl (by kernel_rfl) (by kernel_rfl) (by kernel_rfl) (by kernel_rfl) (fun _ _ _ h => h) (Or.inl ⟨by rfl, fun w hw => by go_simp⟩) hS7 ?_
    simp only [Act.put, List.getElem_toArray, List.getElem_cons_succ, List.getElem_cons_zero, List.setIfInBounds_toArray, List.set_cons_zero, List.set_cons_succ]
    refine L_take (i := 9) (v := .slice q.D q.dt.length q.cd) rfl rfl (by kernel_rfl) (by kernel_rfl) (by kernel_rfl) (by kernel_rfl) (fun _ _ _ h => h) (Or.inl ⟨by rfl, fun w hw => by have q1 := (HCC.out w hw).2.2.2; go_simp⟩) hS7 ?_
    simp only [Act.put, List.getElem_toArray, List.getElem_cons_succ, List.getElem_cons_zero, List.setIfInBounds_toArray, List.set_cons_zero, List.set_cons_succ]
    have hsd := HSM.out.dt
    have hNW := HN.out
    refine L_one (j := 10) (by kernel_rfl) rfl (by rfl) ?_
    simp only [Act.put, List.getElem_toArray, List.getElem_cons_succ, List.getElem_cons_zero, List.setIfInBounds_toArray, List.set_cons_zero, List.set_cons_succ]
    refine wp_called (by kernel_rfl) (clone_any q.D q.dt.length q.cd q.dt W.drew _ (by omega) (OA.N.R hNW).dt.drew) ?_
    rintro e w1 ⟨v1, rfl, hv1, hb1⟩
    obtain ⟨D2, c2, rfl, -⟩ := hv1.form
    have hb1' : Below W.heap.size W w1 := below_drew' hb1
    have S1 : Blk w1 g 36 #[.bool true, .slice q.D q.dt.length q.cd, .int .i64 q.sq, .slice q.C q.cl.length q.cc] ∧ Blk w1 w.heap.size 104 #[.pointer (some ⟨g, 0, none⟩)] ∧ Blk w1 (w.heap.size + 1 + 1) 26 #[.slice A1 nf c1] := ⟨hS7.1.of (hb1.block _ hS7.1.lt), hS7.2.1.of (hb1.block _ hS7.2.1.lt), hS7.2.2.of (hb1.block _ hS7.2.2.lt)⟩
    refine ⟨_, rfl, S1, ?_⟩
    simp only [Act.put, List.getElem_toArray, List.getElem_cons_succ, List.getElem_cons_zero, List.setIfInBounds_toArray, List.set_cons_zero, List.set_cons_succ]
    refine L_one (j := 11) (by kernel_rfl) rfl (by rfl) ?_
    simp only [Act.put, List.getElem_toArray, List.getElem_cons_succ, List.getElem_cons_zero, List.setIfInBounds_toArray, List.set_cons_zero, List.set_cons_succ]
    refine wp_ran (v := .agg #[.slice A1 nf c1, .slice D2 q.dt.length c2]) (w' := w1) (by kernel_rfl) ⟨S1, ?_⟩
    simp only [Act.put, List.getElem_toArray, List.getElem_cons_succ, List.getElem_cons_zero, List.setIfInBounds_toArray, List.set_cons_zero, List.set_cons_succ]
    have hbs := build_scl (CA.mk fr q.dt A1 c1 D2 c2) w1
    have hnf2 := HNF.out
    simp only at hbs
    rw [← hnf2] at hbs
    refine L_one (j := 12) (by kernel_rfl) rfl (by rfl) ?_
    simp only [Act.put, List.getElem_toArray, List.getElem_cons_succ, List.getElem_cons_zero, List.setIfInBounds_toArray, List.set_cons_zero, List.set_cons_succ]
    refine wp_ran (v := .slice (some ⟨w1.heap.size, 0, none⟩) 1 1) (w' := w1.alloc (.cells (CA.cells (CA.mk fr q.dt A1 c1 D2 c2)).toArray 79)) (by go_simp <;> rfl) ⟨⟨S1.1.alloc _, S1.2.1.alloc _, S1.2.2.alloc _⟩, ?_⟩
    simp only [Act.put, List.getElem_toArray, List.getElem_cons_succ, List.getElem_cons_zero, List.setIfInBounds_toArray, List.set_cons_zero, List.set_cons_succ]
    have hN1 := OA.N.below hNW hb1'
    have hrow1 := hN1.row
    rw [List.append_nil] at hrow1
    have hrow2 : OwnC 79 (w1.alloc (.cells (CA.cells (CA.mk fr q.dt A1 c1 D2 c2)).toArray 79)) base (.slice q.C q.cl.length q.cc) q.cl := World.ownsRow.alloc hrow1 _
    obtain ⟨i0, hi0, hz0, hz1, hz2⟩ := info_parts scl_info
    have hscn := HSM.out.cn
    have hsz9 := hb1'.size
    have hsz8 := HV.out.bel.size
    refine L_one (j := 13) (by kernel_rfl) rfl (by rfl) ?_
    simp only [Act.put, List.getElem_toArray, List.getElem_cons_succ, List.getElem_cons_zero, List.setIfInBounds_toArray, List.set_cons_zero, List.set_cons_succ]
    refine wp_append_any _ (.tmp 35) (.tmp 43) 34 rfl base 79 i0 _ 2 48 Try.underlying34 hi0 hz0 hz1 hz2 rfl (by omega) (.slice q.C q.cl.length q.cc) q.cl.length (q.cl.flatMap CA.cells) rfl hrow2 _ (some ⟨w1.heap.size, 0, none⟩) 1 1 ([(CA.mk fr q.dt A1 c1 D2 c2)].flatMap CA.cells) rfl (one_cl w1 79 (CA.mk fr q.dt A1 c1 D2 c2)) (cells_one _) (by simp only [maxLen]; omega) (by omega) (by rw [World.size_alloc]; omega) ?_
    intro v3 w3 h3 g3 a3
    have h3' : OwnC 79 w3 base v3 (q.cl ++ [(CA.mk fr q.dt A1 c1 D2 c2)]) := by unfold OwnC; rw [List.flatMap_append, List.length_append]; exact h3
    obtain ⟨A4, c4, rfl⟩ := h3'.form
    have hne3 : ∀ k t cs, Blk (w1.alloc (.cells (CA.cells (CA.mk fr q.dt A1 c1 D2 c2)).toArray 79)) k t cs → t ≠ 79 → Blk w3 k t cs := fun k t cs hk ht => hk.grown g3 (fun e => own_blk_ne hrow2 hk (fun e2 => ht e2.symm) e.symm)
    have S3 : Blk w3 g 36 #[.bool true, .slice q.D q.dt.length q.cd, .int .i64 q.sq, .slice q.C q.cl.length q.cc] ∧ Blk w3 w.heap.size 104 #[.pointer (some ⟨g, 0, none⟩)] ∧ Blk w3 (w.heap.size + 1 + 1) 26 #[.slice A1 nf c1] := ⟨hne3 _ _ _ (S1.1.alloc _) (by decide), hne3 _ _ _ (S1.2.1.alloc _) (by decide), hne3 _ _ _ (S1.2.2.alloc _) (by decide)⟩
    refine ⟨S3, ?_⟩
    simp only [Act.put, List.getElem_toArray, List.getElem_cons_succ, List.getElem_cons_zero, List.setIfInBounds_toArray, List.set_cons_zero, List.set_cons_succ]
    refine L_one (j := 14) (by kernel_rfl) rfl (by rfl) ?_
    simp only [Act.put, List.getElem_toArray, List.getElem_cons_succ, List.getElem_cons_zero, List.setIfInBounds_toArray, List.set_cons_zero, List.set_cons_succ]
    refine wp_ran (v := .pointer (some ⟨g, 0, none⟩)) (w' := w3) (by kernel_rfl) ⟨S3, ?_⟩
    simp only [Act.put, List.getElem_toArray, List.getElem_cons_succ, List.getElem_cons_zero, List.setIfInBounds_toArray, List.set_cons_zero, List.set_cons_succ]
    refine L_one (j := 15) (by kernel_rfl) rfl (by rfl) ?_
    simp only [Act.put, List.getElem_toArray, List.getElem_cons_succ, List.getElem_cons_zero, List.setIfInBounds_toArray, List.set_cons_zero, List.set_cons_succ]
    refine wp_ran (v := .pointer (some ⟨g, 3, none⟩)) (w' := w3) (by go_simp) ⟨S3, ?_⟩
    simp only [Act.put, List.getElem_toArray, List.getElem_cons_succ, List.getElem_cons_zero, List.setIfInBounds_toArray, List.set_cons_zero, List.set_cons_succ]
    have hlen4 : (q.cl ++ [(CA.mk fr q.dt A1 c1 D2 c2)]).length = q.cl.length + 1 := by simp
    have hown := HV.out.own
    rw [← hnf2] at hown
    have HST : Hid (∀ w4, Only [g] w3 w4 → OA.N ⟨q.th, q.dt, q.D, q.cd, q.sq, A4, c4, q.cl ++ [(CA.mk fr q.dt A1 c1 D2 c2)]⟩ w4 base ∧ Only (g :: rowOf (.slice q.C 0 0)) w w4) := Lib.hid fun w4 ho =>
      see_step HQ.out hb HV.out.bel (by rw [hnf2] at hown; exact hown) HFI.out hb1' (Own.weaken hv1 (Nat.le_refl _)) h3' g3 HG.out ho
    have hD3 : w3.heap[D]? = some (.deferred (some [])) := by
      have hDl := (Array.getElem?_eq_some_iff.1 HDD.out.1).1
      refine (g3.block D (by rw [World.size_alloc]; omega) (fun e => ?_)).trans ((Below.heap_alloc w1 _ D (by omega)).trans ((hb1'.block D hDl).trans HDD.out.1))
      obtain ⟨cs, hcb⟩ := own_ty hrow1 (mem_rowOf.2 e.symm)
      unfold Blk at hcb
      rw [(hb1'.block D hDl).trans HDD.out.1] at hcb
      cases hcb
    have c03 := S3.2.1.cell 0
    have cc3 : w3.cell? ⟨w.heap.size + 1, 0, none⟩ = some (.int .i64 cq) := ((hne3 _ _ _ ((HV.out.b1.of (hb1'.block _ HV.out.b1.lt)).alloc _) (by decide))).cell 0
    have b13 := (hne3 _ _ _ ((HV.out.b1.of (hb1'.block _ HV.out.b1.lt)).alloc (.cells (CA.cells (CA.mk fr q.dt A1 c1 D2 c2)).toArray 79)) (by decide))
    have H3 := Lib.hid (And.intro S3 (And.intro hD3 b13))
    have HH3 := Lib.hid hlen4
    clear hbs hnf2 hNW hN1 hrow1 hrow2 hi0 hz0 hz1 hz2 hne3 S1 h3 h3' g3 a3 hv1 hb1 hb1' hS7 K7 HCC hD3 hown hlen4 c03 cc3 b13 hsz9 hsz8
    refine L_last (by kernel_rfl) rfl (by rfl) (by kernel_rfl) ?_
    simp only [Act.put, List.getElem_toArray, List.getElem_cons_succ, List.getElem_cons_zero, List.setIfInBounds_toArray, List.set_cons_zero, List.set_cons_succ]
    refine wp_setq 34 (.tmp 46) (.tmp 44) rfl g 3 36 _ (.slice A4 (q.cl ++ [(CA.mk fr q.dt A1 c1 D2 c2)]).length c4) rfl rfl S3.1 (by simp) (by kernel_rfl) rfl ?_
    intro w4 K4 ho4 hs4
    refine NoPanic.normal ?_
    simp only [Act.put, List.getElem_toArray, List.getElem_cons_succ, List.getElem_cons_zero, List.setIfInBounds_toArray, List.set_cons_zero, List.set_cons_succ]
    have hne4 : ∀ k t cs, Blk w3 k t cs → t ≠ 36 → Blk w4 k t cs := fun k t cs hk ht => hk.only ho4 (fun hm => by simp at hm; subst hm; exact hk.ne_ H3.out.1.1 ht rfl)
    have c04 : w4.cell? ⟨w.heap.size, 0, none⟩ = some (.pointer (some ⟨g, 0, none⟩)) := (hne4 _ _ _ H3.out.1.2.1 (by decide)).cell 0
    have cc4 : w4.cell? ⟨w.heap.size + 1, 0, none⟩ = some (.int .i64 cq) := (hne4 _ _ _ H3.out.2.2 (by decide)).cell 0
    have K4' : Blk w4 g 36 (OA.cs ⟨q.th, q.dt, q.D, q.cd, q.sq, A4, c4, q.cl ++ [(CA.mk fr q.dt A1 c1 D2 c2)]⟩) := by
      unfold OA.cs
      rw [HTH.out]
      simpa using K4
    have cg4 : w4.cell? ⟨g, 2, none⟩ = some (.int .i64 q.sq) := K4'.cell 2
    have fg4 : w4.frozen? ⟨g, 2, none⟩ = false := K4'.frozen 2
    have hD4 : w4.heap[D]? = some (.deferred (some [])) := (ho4.block D ((Array.getElem?_eq_some_iff.1 H3.out.2.1).1) (fun hm => by simp at hm; have := HDD.out.2; omega)).trans H3.out.2.1
    have hst4 := HST.out w4 ho4
    have HFIN : Hid (SeeTo w g base q (XA.v ⟨cq, sn, S, cs⟩) (.returned (.tuple #[])) ((w4.setCell ⟨g, 2, none⟩ (.int .i64 cq)).putObj D (.deferred none))) := Lib.hid (by
      refine see_end K4' hst4.1 hst4.2 hD4 (by have := HDD.out.2; omega) hgl HI.out.1 HI.out.2 ?_
      have : newCl q.v (XA.v ⟨cq, sn, S, cs⟩) = [⟨fr, q.dt⟩] := by
        unfold newCl
        have h3 : freshI q.v.sq (XA.v ⟨cq, sn, S, cs⟩) = fr := HF.out.symm
        rw [h3, if_pos]
        · rfl
        · exact ⟨HTH.out, fun e => by have := HNZ.out; have h4 := HNF.out; rw [e] at h4; simp at h4; omega⟩
      unfold seeO
      rw [this]
      show OV.mk _ _ _ _ = OV.mk _ _ _ _
      simp only [OA.v, OA.vs, CA.v, XA.v, List.map_append, List.map_cons, List.map_nil])
    have hK5 : (w4.setCell ⟨g, 2, none⟩ (.int .i64 cq)).heap[D]? = some (.deferred (some [])) := (Below.heap_setCell _ _ _ _ (by have := HDD.out.2; show D ≠ g; omega)).trans hD4
    have HK5 := Lib.hid hK5
    clear hK5 hst4 hD4 K4' hne4 HST K4 ho4 hs4 S3 H3
    gi_wp2
    refine ⟨by simp, .inl ⟨_, _, rfl, run_takeDeferred HK5.out, ?_⟩⟩
    exact ⟨_, results_none rfl _ _ _, HFIN.out⟩
end Go.Proofs.Ytjepfeagbiceoaa
