/-
  The holes, gone through: the laws' row of them. Conditions: a call of Holes answers as it is said to.
-/
import Derived.Test.YtliockcbnmbhnaaTe
import Derived.Test.YtliockcbnmbhnaaGib
namespace Go.Proofs.Ytliockcbnmbhnaa
open Go.RowKit Go.Shelf Go.BigFrame
attribute [local go_sem] Oper.semAt_some
set_option linter.unusedSimpArgs false
set_option linter.unusedVariables false
/-- the row that grows: its variable in block w.heap.size + 1 -/
structure Got (w W : World) (hi : Nat) (v : Value) (pre : List (Nat × Nat)) : Prop where
  box : Boxed W (w.heap.size + 1) 36 v
  own : OwnE W w.heap.size v (natE pre)
  row : ∀ k, v.ownBlock = some k → k = w.heap.size ∨ hi ≤ k
  bel : Below w.heap.size w W
  size : hi ≤ W.heap.size
theorem ext_row_no {W : World} {base : Nat} {v : Value} {l : List (Int × Int)} (h : OwnE W base v l) {r : Nat} {o : Obj} (ho : W.heap[r]? = some o) (hc : o.isCells = false) : v.ownBlock ≠ some r := by
  intro e1
  rcases h.2 with ⟨rfl, _⟩ | ⟨g, cap, cur, rfl, _, hg, _⟩
  · cases e1
  · injection e1 with e1
    have e2 : g = r := e1
    subst e2
    rw [ho] at hg
    injection hg with hg
    rw [hg] at hc
    cases hc
theorem ext_from {W W' : World} {base B : Nat} {v : Value} {l : List (Int × Int)} {row : Option Nat} (h : OwnE W base v l) (hg : W.grownBy W' row) (hr : ∀ r, row = some r → B ≤ r ∧ ∃ o : Obj, W.heap[r]? = some o ∧ o.isCells = false) : OwnE W' base v l :=
  row_of h fun k hk => hg.block k (World.ownsRow.lt h k (mem_rowOf.1 hk)).2 (fun e => by
    obtain ⟨-, o, h1, h2⟩ := hr k e.symm
    exact ext_row_no h h1 h2 (mem_rowOf.1 hk))
theorem Got.from {w W W' : World} {hi B : Nat} {v : Value} {pre : List (Nat × Nat)} {row : Option Nat} (h : Got w W hi v pre) (hg : W.grownBy W' row) (hB : w.heap.size + 2 ≤ B) (hr : ∀ r, row = some r → B ≤ r ∧ ∃ o : Obj, W.heap[r]? = some o ∧ o.isCells = false) : Got w W' hi v pre :=
  ⟨h.box.kept hg (fun e => by have := (hr _ e.symm).1; omega), ext_from h.own hg hr, h.row, h.bel.grown hg h.bel.size (fun k e => by have := (hr k e).1; omega), Nat.le_trans h.size hg.size⟩
theorem Got.step {w W W3 : World} {hi : Nat} {v v3 : Value} {pre : List (Nat × Nat)} {x : Nat × Nat} {o : Obj} (h : Got w W hi v pre) (hhi : w.heap.size + 2 ≤ hi) (hg : (W.alloc o).grownBy W3 v.ownBlock)
    (h3 : OwnE W3 w.heap.size v3 (natE pre ++ [((x.1 : Int), (x.2 : Int))])) (ha : v3.ownBlock = v.ownBlock ∨ v3.ownBlock = some (W.alloc o).heap.size) :
    KeepsFrom hi W (W3.setCell ⟨w.heap.size + 1, 0, none⟩ v3) ∧ Kept (w.heap.size + 2) hi W (W3.setCell ⟨w.heap.size + 1, 0, none⟩ v3) ∧ Got w (W3.setCell ⟨w.heap.size + 1, 0, none⟩ v3) hi v3 (pre ++ [x]) := by
  have s2 : (W.alloc o).heap.size = W.heap.size + 1 := World.size_alloc _ _
  have hsz := hg.size
  rw [s2] at hsz ha
  have hs := h.size
  have hlo : ∀ k, v.ownBlock = some k → w.heap.size ≤ k ∧ k < W.heap.size := World.ownsRow.lt h.own
  have hb2 : ∀ k, k < W.heap.size → some k ≠ v.ownBlock → W3.heap[k]? = W.heap[k]? := fun k hk hne => (hg.block k (by omega) hne).trans (Below.heap_alloc _ _ _ hk)
  have hset : ∀ k, k ≠ w.heap.size + 1 → (W3.setCell ⟨w.heap.size + 1, 0, none⟩ v3).heap[k]? = W3.heap[k]? := fun k hk => Below.heap_setCell _ _ _ _ hk
  have hs3 : (W3.setCell ⟨w.heap.size + 1, 0, none⟩ v3).heap.size = W3.heap.size := by simp [World.setCell]
  have hbx : Boxed W3 (w.heap.size + 1) 36 v := (hb2 _ (by omega) (fun e => by rcases h.row _ e.symm with h1 | h1 <;> omega)).trans h.box
  have hnew : ∀ k, v3.ownBlock = some k → k = w.heap.size ∨ hi ≤ k := fun k hk => by
    rcases ha with h1 | h1
    · exact h.row k (h1 ▸ hk)
    · rw [hk] at h1; injection h1 with h1; omega
  refine ⟨⟨by rw [hs3]; omega, fun k ob hk ho hc => ?_⟩, fun k h1 h2 => ?_, hbx.set v3, ?_, hnew, ?_, by rw [hs3]; omega⟩
  · have hkl := (Array.getElem?_eq_some_iff.1 ho).1
    rw [hset k (by omega), hb2 k hkl (fun e => ext_row_no h.own ho hc e.symm)]
    exact ho
  · rw [hset k (by omega), hb2 k (by omega) (fun e => by rcases h.row _ e.symm with h3 | h3 <;> omega)]
  · have : OwnE (W3.setCell ⟨w.heap.size + 1, 0, none⟩ v3) w.heap.size v3 (natE pre ++ [((x.1 : Int), (x.2 : Int))]) := row_of h3 fun k hk => hset k (by rcases hnew k (mem_rowOf.1 hk) with h1 | h1 <;> omega)
    simpa [natE] using this
  · exact ((h.bel.alloc h.bel.size o).grown hg (by rw [s2]; have := h.bel.size; omega) (fun k e => (hlo k e).1)).setCell (by show w.heap.size ≤ w.heap.size + 1; omega) _
theorem lholes_results (W : World) (tmps : Array Value) (v : Value) (h : tmps.getD 2 undef = v) : (results Try.f24 tmps).run Try.prog W = .ok v W := by
  rw [results_tmp (t := 2) rfl, h]
set_option maxRecDepth 100000 in
set_option maxHeartbeats 4000000 in
theorem lholes_in {w : World} {p : Value} {L : List (Nat × Nat)} (hH : ∀ w2, Below w.heap.size w w2 → Calls Try.prog 35 #[p] w2 (HolesTo w2 L)) (hmany : L.length ≤ 100000) :
    CallsIn Fence.wide 5 Try.prog 24 #[p] w fun e w' => ∃ v, e = .returned v ∧ OwnE w' w.heap.size v (natE L) ∧ Below w.heap.size w w' := by
  have hro : Fence.wide.round = none := rfl
  have h1 : 1 ≤ 5 := by omega
  have HH := Lib.hid hH
  clear hH
  refine callsIn_of_wp_marks Try.func24 rfl trivial ?_ hro
  simp only [Try.ntmps24, List.size_toArray, List.length_cons, List.length_nil, Nat.reduceAdd, Nat.reduceSub, Array.replicate_succ, Array.replicate_zero, List.push_toArray, List.append_toArray, List.nil_append, List.cons_append]
  gi_wp2
  have hs1 : (w.alloc (.cells #[] 45)).heap.size = w.heap.size + 1 := World.size_alloc _ _
  have hs2 : ((w.alloc (.cells #[] 45)).alloc (.cells #[.slice (some ⟨w.heap.size, 0, none⟩) 0 0] 36)).heap.size = w.heap.size + 2 := by rw [World.size_alloc, hs1]
  have hb2 : Below w.heap.size w ((w.alloc (.cells #[] 45)).alloc (.cells #[.slice (some ⟨w.heap.size, 0, none⟩) 0 0] 36)) := ((Below.refl _ w).alloc (Nat.le_refl _) _).alloc (by rw [hs1]; omega) _
  have hx2 : Boxed ((w.alloc (.cells #[] 45)).alloc (.cells #[.slice (some ⟨w.heap.size, 0, none⟩) 0 0] 36)) (w.heap.size + 1) 36 (.slice (some ⟨w.heap.size, 0, none⟩) 0 0) := by
    have := Boxed.new (w.alloc (.cells #[] 45)) 36 (.slice (some ⟨w.heap.size, 0, none⟩) 0 0)
    rwa [hs1] at this
  have hr2 : OwnE ((w.alloc (.cells #[] 45)).alloc (.cells #[.slice (some ⟨w.heap.size, 0, none⟩) 0 0] 36)) w.heap.size (.slice (some ⟨w.heap.size, 0, none⟩) 0 0) (natE []) :=
    World.ownsRow.alloc (w := w.alloc (.cells #[] 45)) ⟨rfl, .inr ⟨w.heap.size, 0, #[], rfl, Nat.le_refl _, Blk.new w _ _, Nat.le_refl _, by simp [maxLen], rfl, rfl⟩⟩ _
  refine ⟨trivial, ?_⟩
  refine (callsIn_wide.2 (HH.out _ hb2)).mono ?_
  rintro e w3 ⟨Bs, r, c, A, rfl, hB0, hB1, hx3, hrw, hr0, b3⟩
  rw [hs2] at hB0 hr0 b3
  have hsz3 := b3.size
  rw [hs2] at hsz3
  have hg3 : Got w w3 w3.heap.size (.slice (some ⟨w.heap.size, 0, none⟩) 0 0) [] := ⟨(b3.block _ (by omega)).trans hx2, hr2.apart fun k _ hk => b3.block k (by rw [hs2] at hk; omega), fun k hk => by injection hk with hk; exact .inl hk.symm, hb2.trans (b3.mono (by omega)), Nat.le_refl _⟩
  have HG3 := Lib.hid hg3
  have HV := Lib.hid (vals1_gives (w.heap.size + 2) Bs r c A L w3 hB0 hB1 hx3 hrw hr0 hmany)
  clear hs1 hs2 hb2 hx2 hr2 b3 hx3 hg3 hrw hr0 HH
  gi_wp2
  refine range_boxed hro h1 (gf := 56) (lb := #[.pointer (some ⟨Bs, 0, none⟩)]) rfl trivial (enters_of Try.func56 (by kernel_rfl) rfl) (encs := encE) (fun _ => rfl)
    HV.out (fun xs W => ∃ v, Got w W w3.heap.size v xs) ?own1 (fun s W W' row h _ _ => h) (fun _ _ _ _ _ h _ _ => h) (fun h h' => Kept.trans h h') (fun W l o o' hl ho hc => fun k h1 h2 => World.putObj_heap_other (by omega)) (fun W o hs => fun k h1 h2 => Below.heap_alloc _ _ _ (by omega)) ⟨_, HG3.out⟩
    (fun x b => { tmps := #[p, undef, .slice none 0 0, .pointer (some ⟨w.heap.size + 1, 0, none⟩), .pointer (some ⟨b, 0, none⟩), .slice (some ⟨w.heap.size, 0, none⟩) 0 0, p, .func (.func 56) #[] #[.pointer (some ⟨Bs, 0, none⟩)], exV x, undef, undef, undef, undef, undef], defers := [] }) (fun x => .cells #[.int .i64 (x.1 : Int), .int .i64 (x.2 : Int)] 45) ?assign ?body ?done
  case own1 =>
    rintro s W W' row ⟨v, h⟩ hg hr
    exact ⟨v, h.from hg (B := w3.heap.size) (by omega) hr⟩
  case assign =>
    rintro l x W K hK
    have HK := Lib.hid hK
    clear hK
    unfold encE exV at *
    gi_wp2
    exact HK.out
  case body =>
    rintro l pre x b W hlW ⟨rl, hrl⟩ hbW hbo ⟨v, hgot⟩ - hlt
    clear hrl
    have hcl := hgot.box.cell
    have hfz := hgot.box.frozen
    obtain ⟨Av, cv, rfl, -⟩ := hgot.own.form
    have hnl : (natE pre).length = pre.length := by simp [natE]
    rw [hnl] at hgot hcl
    have hb4 : Blk W b 45 #[.int .i64 (x.1 : Int), .int .i64 (x.2 : Int)] := hbo
    have b0 : W.cell? ⟨b, 0, none⟩ = some (.int .i64 (x.1 : Int)) := hb4.cell 0
    have b1 : W.cell? ⟨b, 1, none⟩ = some (.int .i64 (x.2 : Int)) := hb4.cell 1
    have hbe := build_ext ((x.1 : Int), (x.2 : Int))
    have hex := ext_new W ((x.1 : Int), (x.2 : Int))
    have HG := Lib.hid hgot
    have HE := Lib.hid hex
    have hlt2 : pre.length ≤ 100000 := by omega
    have hsw := hgot.bel.size
    clear hgot hnl hb4 hbo hex
    unfold exV
    refine wpIn_block ?_
    gi_wp2_with (refine wpListIn_app_ext rfl (.tmp 9) (.tmp 11) rfl w.heap.size (.slice Av pre.length cv) (natE pre) rfl (World.ownsRow.alloc HG.out.own _) (W.heap.size + 1) (some ⟨W.heap.size, 0, none⟩) 1 1 [((x.1 : Int), (x.2 : Int))] rfl rfl HE.out (by simp [natE]; omega) (by rw [World.size_alloc]; omega) ?_
                 intro v3 W3 h3 g3 a3
                 obtain ⟨A3, c3, rfl, -⟩ := OwnE.form h3
                 have hb3 : Boxed W3 (w.heap.size + 1) 36 (.slice Av pre.length cv) := (HG.out.box.alloc (.cells (ext1 ((x.1 : Int), (x.2 : Int))).toArray 45)).kept g3 (fun e => by rcases HG.out.row _ e.symm with h | h <;> omega)
                 have hcl4 := hb3.cell
                 have hfz4 := hb3.frozen
                 have HF := Lib.hid (Got.step (x := x) HG.out hsz3 g3 h3 a3)
                 clear h3 g3 a3 hb3)
    have hres := HF.out
    simp only [List.length_append, List.length_singleton] at hres
    exact ⟨hres.1, hres.2.1, _, hres.2.2⟩
  case done =>
    rintro D xs W hD rfl ⟨v, hgot⟩ hK
    have hcl := hgot.box.cell
    have HG := Lib.hid hgot
    have HK := Lib.hid hK
    clear hgot hK
    gi_wp2_with fail
    refine ⟨by simp, .inl ⟨_, _, rfl, run_takeDeferred HK.out, ?_⟩⟩
    have hkp := grownBy_putObj' W D (.deferred none)
    exact ⟨_, lholes_results _ _ _ rfl, v, rfl, row_of HG.out.own (fun k hk => hkp.block k (World.ownsRow.lt HG.out.own k (mem_rowOf.1 hk)).2 (fun e => by injection e with e; subst e; exact ext_row_no HG.out.own HK.out rfl (mem_rowOf.1 hk))), HG.out.bel.grown hkp HG.out.bel.size (fun k e => by injection e with e; omega)⟩
theorem lholes_any {w : World} {p : Value} {L : List (Nat × Nat)} (hH : ∀ w2, Below w.heap.size w w2 → Calls Try.prog 35 #[p] w2 (HolesTo w2 L)) (hmany : L.length ≤ 100000) :
    Calls Try.prog 24 #[p] w fun e w' => ∃ v, e = .returned v ∧ OwnE w' w.heap.size v (natE L) ∧ Below w.heap.size w w' :=
  callsIn_wide.1 (lholes_in hH hmany)
end Go.Proofs.Ytliockcbnmbhnaa
