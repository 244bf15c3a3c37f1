/-
  The package's Parts: the data's rows, each in a block of its own. Conditions: the data read as bytes.
-/
import Derived.Test.YtgdkpmgfholnkaaDoorChunk
import Derived.Test.YtgdkpmgfholnkaaDoorBoxPaW
import Derived.RangeFuncBox
import Derived.Shelf.Abstract
import Derived.Shelf.RegionOpen
namespace Go.Proofs.YtgdkpmgfholnkaaDoor
open Go.RowKit Go.Shelf Go.BigFrame
attribute [local go_sem] Oper.semAt_some
set_option linter.unusedSimpArgs false
set_option linter.unusedVariables false
/-- how the rows stand behind those that were handed -/
structure PartsAt (W : World) (w : World) (d : List Nat) (v : Value) (rs : Nat → Value) (pre : List Nat) : Prop where
  box : Boxed W w.heap.size 47 v
  row : W.ownsRow (w.heap.size + 3) 22 1 v pre.length (hdr rs pre.length)
  own : ∀ i, i < pre.length → Own W (w.heap.size + 3) (rs i) (prow d (pre.getD i 0)).length (prow d (pre.getD i 0))
  dis : ∀ i j, i < pre.length → j < pre.length → i ≠ j → ∀ b, (rs i).ownBlock = some b → (rs j).ownBlock ≠ some b
  bel : Below w.heap.size w W
theorem row_no {W : World} {base : Nat} {e : TypeId} {v : Value} {n : Nat} {xs : List Value} (h : W.ownsRow base e 1 v n xs) {r : Nat} {o : Obj} (ho : W.heap[r]? = some o) (hc : o.isCells = false) : v.ownBlock ≠ some r := by
  intro e1
  rcases h.2 with ⟨rfl, _⟩ | ⟨g, cap, cur, rfl, _, hg, _⟩
  · cases e1
  · injection e1 with e1
    subst e1
    rw [ho] at hg
    injection hg with hg
    subst hg
    cases hc
theorem PartsAt.grown {W W' w : World} {d : List Nat} {v : Value} {rs : Nat → Value} {pre : List Nat} {row : Option Nat} (h : PartsAt W w d v rs pre) (hg : W.grownBy W' row) (hr : ∀ r, row = some r → w.heap.size + 3 ≤ r ∧ ∃ o : Obj, W.heap[r]? = some o ∧ o.isCells = false) : PartsAt W' w d v rs pre := by
  have hno : ∀ {e : TypeId} {v : Value} {n : Nat} {xs : List Value}, W.ownsRow (w.heap.size + 3) e 1 v n xs → v.ownBlock = none ∨ v.ownBlock ≠ row := fun {e v n xs} hx => by
    rcases hv : v.ownBlock with _ | b
    · exact .inl rfl
    · right
      intro e1
      obtain ⟨-, o, ho, hc⟩ := hr b e1.symm
      exact row_no hx ho hc hv
  refine ⟨h.box.kept hg (fun e => ?_), World.ownsRow.kept h.row hg (hno h.row), fun i hi => Own.grown (h.own i hi) hg (hno (h.own i hi)), h.dis, h.bel.grown hg h.bel.size (fun k e => ?_)⟩
  · have := (hr _ e.symm).1; omega
  · have := (hr k e).1; omega
theorem opIn_app_row {F : Fence} {nF : Nat} {w : World} {o : Oper} {a : Act} {K : Act → World → Prop} {Q : Exit → Act → World → Prop} (s x : Operand)
    (ho : o.op = .call { callee := .builtin .append, args := #[s, x], argTypes := #[47, 47] })
    (base : Nat) (v : Value) (n : Nat) (xs : List Value) (hs : a.eval s = v) (hown : w.ownsRow base 22 1 v n xs)
    (B : Nat) (A : Option Addr) (c : Nat) (u : Value) (hx : a.eval x = .slice A 1 c) (hr : Reads w B 1 A 1 [u]) (hu : u.oneCell' = true) (hn : n ≤ 1000000) (hbase : base ≤ w.heap.size)
    (h : ∀ v' w', w'.ownsRow base 22 1 v' (n + 1) (xs ++ [u]) → w.grownBy w' v.ownBlock → K (a.put o.dst v') w') : Oper.wpIn F nF Tryd.prog o a w K Q := by
  obtain ⟨i0, hi0, hz0, hz1, hz2⟩ := info_parts slice_info
  obtain ⟨v', w', hrun, r1, r2, -⟩ := run_append_any (P := Tryd.prog) w base 47 o.type 22 i0 _ 1 24 Tryd.underlying47 hi0 hz0 hz1 hz2 rfl (by omega) v n xs hown B A 1 c [u] hr (by
    intro u' hu'
    obtain rfl := List.mem_singleton.1 hu'
    exact hu) (by simp only [maxLen]; omega) (by omega) hbase
  unfold Oper.wpIn
  refine ⟨?_, ?_⟩
  · simp [Oper.about, ho, resolve, Target.leads, Sem.run_pure]
  · rw [Oper.semAt_plain F _ _ (by rw [ho]; intro c hc'; cases hc')]
    simp [execOp, ho, resolve, invoke, builtin, hs, hx, hrun, Result.andThen]
    exact h v' w' r1 r2
theorem parts_step {W W2 W3 w : World} {B : Nat} {d : List Nat} {v v3 : Value} {rs : Nat → Value} {pre : List Nat} {x : Nat} {A2 : Option Addr} {n2 c2 : Nat} (hA : PartsAt W w d v rs pre) (b2 : W.grownBy W2 none) (ho2 : Own W2 W.heap.size (.slice A2 n2 c2) n2 (prow d x)) (hn2 : n2 = (prow d x).length)
    (h3 : W3.ownsRow (w.heap.size + 3) 22 1 v3 (pre.length + 1) (hdr rs pre.length ++ [.slice A2 n2 c2])) (g3 : (W2.alloc (.cells #[.slice A2 n2 c2] 22)).grownBy W3 v.ownBlock) (hW0 : w.heap.size + 3 ≤ W.heap.size) :
    KeepsFrom B W (W3.setCell ⟨w.heap.size, 0, none⟩ v3) ∧ Keep2 (w.heap.size + 1) (w.heap.size + 1 + 1) W (W3.setCell ⟨w.heap.size, 0, none⟩ v3) ∧ ∃ v rs, PartsAt (W3.setCell ⟨w.heap.size, 0, none⟩ v3) w d v rs (pre ++ [x]) := by
  have hA2 := hA.grown b2 (fun r e => by cases e)
  have hg := World.grownBy_alloc W2 (.cells #[.slice A2 n2 c2] 22) none
  have hA3 := hA2.grown hg (fun r e => by cases e)
  have ho3 := ho2.alloc (.cells #[.slice A2 n2 c2] 22)
  have hlo : ∀ k, v.ownBlock = some k → w.heap.size + 3 ≤ k := fun k hk => (World.ownsRow.lt hA3.row k hk).1
  have hs2 := b2.size
  have hs3 := hg.size
  have hne : ∀ {base : Nat} {u : Value} {n : Nat} {bs : List Nat}, Own (W2.alloc (.cells #[.slice A2 n2 c2] 22)) base u n bs → u.ownBlock = none ∨ u.ownBlock ≠ v.ownBlock := fun {base u n bs} hu => by
    rcases hb : u.ownBlock with _ | b
    · exact .inl rfl
    · exact .inr (fun e => own_ne hu hA3.row (by decide) b hb e.symm)
  have hbx := hA3.box.kept g3 (fun e => by have := hlo _ e.symm; omega)
  refine ⟨?_, ?_, v3, fun i => if i = pre.length then .slice A2 n2 c2 else rs i, ?_, ?_, ?_, ?_, ?_⟩
  · refine KeepsFrom.trans (KeepsFrom.trans (KeepsFrom.trans (KeepsFrom.of_grownBy b2 (fun j e => by cases e)) ((KeepsOthers.alloc _ _).from _)) ((KeepsOthers.of_grownBy g3 (fun j o e ho => ?_)).from _)) ((KeepsOthers.setCell _ _ _).from _)
    cases hc : o.isCells with
    | true => rfl
    | false => exact absurd e (row_no hA3.row ho hc)
  · have hf : ∀ q, w.heap.size < q → q < w.heap.size + 3 → (W3.setCell ⟨w.heap.size, 0, none⟩ v3).heap[q]? = W.heap[q]? := fun q h1 h2 => by
      rw [Below.heap_setCell _ _ _ _ (by show q ≠ w.heap.size; omega), g3.block q (by omega) (fun e => by have := hlo _ e.symm; omega), hg.block q (by omega) (by simp), b2.block q (by omega) (by simp)]
    exact ⟨hf _ (by omega) (by omega), hf _ (by omega) (by omega)⟩
  · exact hbx.set v3
  · rw [List.length_append, List.length_singleton, hdr_snoc]
    exact ownsRow_setCell_below h3 (by show w.heap.size < _; omega) _
  · intro i hi
    rw [List.length_append, List.length_singleton] at hi
    change Own _ _ (if i = pre.length then Value.slice A2 n2 c2 else rs i) _ _
    by_cases h : i = pre.length
    · subst h
      rw [if_pos rfl, show (pre ++ [x]).getD pre.length 0 = x by simp, ← hn2]
      exact ownsRow_setCell_below ((Own.grown ho3 g3 (hne ho3)).weaken hW0) (by show w.heap.size < _; omega) _
    · rw [if_neg h, show (pre ++ [x]).getD i 0 = pre.getD i 0 by simp [List.getD, List.getElem?_append_left (show i < pre.length by omega)]]
      have := hA3.own i (by omega)
      exact ownsRow_setCell_below (Own.grown this g3 (hne this)) (by show w.heap.size < _; omega) _
  · intro i j hi hj hij b hb
    rw [List.length_append, List.length_singleton] at hi hj
    change Value.ownBlock (if i = pre.length then Value.slice A2 n2 c2 else rs i) = some b at hb
    change Value.ownBlock (if j = pre.length then Value.slice A2 n2 c2 else rs j) ≠ some b
    by_cases h : i = pre.length
    · rw [if_pos h] at hb
      rw [if_neg (by omega)]
      intro e
      have := (World.ownsRow.lt ho2 b hb).1
      have := (World.ownsRow.lt (hA.own j (by omega)) b e).2
      omega
    · rw [if_neg h] at hb
      by_cases h' : j = pre.length
      · rw [if_pos h']
        intro e
        have := (World.ownsRow.lt ho2 b e).1
        have := (World.ownsRow.lt (hA.own i (by omega)) b hb).2
        omega
      · rw [if_neg h']
        exact hA.dis i j (by omega) (by omega) hij b hb
  · exact (hA3.bel.grown g3 hA3.bel.size (fun k hk => by have := hlo k hk; omega)).setCell (p := ⟨w.heap.size, 0, none⟩) (Nat.le_refl _) _
theorem parts_results (W : World) (tmps : Array Value) (v : Value) (h : tmps.getD 2 undef = v) : (results Tryd.f25 tmps).run Tryd.prog W = .ok v W := by
  have h' : tmps[2]?.getD undef = v := by simpa using h
  unfold results
  rw [Tryd.results25]
  simp [h']
set_option maxRecDepth 100000 in
set_option maxHeartbeats 2000000 in
theorem parts_in (A : Option Addr) (c : Nat) (d : List Nat) (w : World) (h : Bytes w w.heap.size A d.length d) (hl : d.length ≤ 5000) (hc : d.length ≤ c) (hcm : c ≤ 9223372036854775807) :
    CallsIn Fence.wide 5 Tryd.prog 25 #[.slice A d.length c] w (PartsPost d w) := by
  have hro : Fence.wide.round = none := rfl
  have h1 : 1 ≤ 5 := by omega
  have HD := Lib.hid h
  clear h
  refine callsIn_of_wp_marks Tryd.func25 rfl trivial ?_ hro
  simp only [Tryd.ntmps25, List.size_toArray, List.length_cons, List.length_nil, Nat.reduceAdd, Nat.reduceSub, Array.replicate_succ, Array.replicate_zero, List.push_toArray, List.append_toArray, List.nil_append, List.cons_append]
  gi_wp2_with (refine ⟨trivial, ?_⟩; gi_at_call 35; refine (callsIn_wide.2 (chunk_any _ _ _ _)).mono ?_; rintro e w' ⟨rfl, rfl⟩)
  have hbx : Boxed (((w.alloc (.cells #[.slice none 0 0] 47)).alloc (.cells #[.slice A d.length c] 22)).alloc (.cells #[.int .i64 106] 3)) w.heap.size 47 (.slice none 0 0) := ((Boxed.new w _ _).alloc _).alloc _
  have hb0 : Below w.heap.size w (((w.alloc (.cells #[.slice none 0 0] 47)).alloc (.cells #[.slice A d.length c] 22)).alloc (.cells #[.int .i64 106] 3)) := (((Below.refl _ w).alloc (Nat.le_refl _) _).alloc (by simp) _).alloc (by simp; omega) _
  have hc1 : (((w.alloc (.cells #[.slice none 0 0] 47)).alloc (.cells #[.slice A d.length c] 22)).alloc (.cells #[.int .i64 106] 3)).cell? ⟨w.heap.size + 1, 0, none⟩ = some (.slice A d.length c) := by
    have := ((Boxed.new (w.alloc (.cells #[.slice none 0 0] 47)) 22 (.slice A d.length c)).alloc (.cells #[.int .i64 106] 3)).cell
    simpa using this
  have hc2 : (((w.alloc (.cells #[.slice none 0 0] 47)).alloc (.cells #[.slice A d.length c] 22)).alloc (.cells #[.int .i64 106] 3)).cell? ⟨w.heap.size + 1 + 1, 0, none⟩ = some (.int .i64 106) := by
    have := (Boxed.new ((w.alloc (.cells #[.slice none 0 0] 47)).alloc (.cells #[.slice A d.length c] 22)) 3 (.int .i64 106)).cell
    simpa using this
  have hsz : (((w.alloc (.cells #[.slice none 0 0] 47)).alloc (.cells #[.slice A d.length c] 22)).alloc (.cells #[.int .i64 106] 3)).heap.size = w.heap.size + 3 := by simp
  generalize ((w.alloc (.cells #[.slice none 0 0] 47)).alloc (.cells #[.slice A d.length c] 22)).alloc (.cells #[.int .i64 106] 3) = W0 at *
  refine wpIn_rangeFunc_ownH hro h1 (gf := 45) (lb := #[.pointer (some ⟨w.heap.size + 1, 0, none⟩), .pointer (some ⟨w.heap.size + 1 + 1, 0, none⟩)]) rfl trivial (enters_of Tryd.func45 (by kernel_rfl) rfl)
    (chunk_stops Fence.wide 4 (fun _ => trivial) hro (by omega) (w.heap.size + 1) (w.heap.size + 1 + 1) A c d hl hc hcm W0 (by omega) (by omega) hc1 hc2) Keep2.trans (Keep2.put (by omega) (by omega)) (Below.refl _ _) (fun _ => rfl)
    (fun pre W => ∃ v rs, PartsAt W w d v rs pre)
    (fun _ _ _ => False)
    ?own1 (fun c s W W' row h => h.elim) ⟨.slice none 0 0, fun _ => undef, hbx, World.ownsRow_nil _ _ _ 1, fun i hi => absurd hi (by simp), fun i j hi => absurd hi (by simp), hb0⟩
    (fun x a' W => a' = { tmps := #[.slice A d.length c, undef, .slice none 0 0, .pointer (some ⟨w.heap.size, 0, none⟩), .slice (chunkA A x) (chunkN d x) (chunkN d x), .slice A d.length c, .func (.func 45) #[] #[.pointer (some ⟨w.heap.size + 1, 0, none⟩), .pointer (some ⟨w.heap.size + 1 + 1, 0, none⟩)], .slice (chunkA A x) (chunkN d x) (chunkN d x), undef, undef, undef, undef, undef, undef], defers := [] })
    (fun x a' => ownFrom_pure _ _)
    ?assign ?body ?done ?stop
  case own1 =>
    rintro s W W' row ⟨v, rs, h⟩ hg hr
    exact ⟨v, rs, h.grown hg (fun r e => by have := hr r e; rw [hsz] at this; exact this)⟩
  case assign =>
    rintro l pre x W K hI hK
    have HK := Lib.hid hK
    have HI := Lib.hid hI
    clear hK hI
    unfold encC
    gi_wp2
    exact HK.out _ _ (KeepsFrom.refl _ _) (Keep2.refl _ _ _) HI.out rfl
  case stop =>
    rintro D c pre W hD - h
    exact h.elim
  case done =>
    rintro D ys W hD rfl ⟨v, rs, hA⟩ hK
    have hcl := hA.box.cell
    have HA := Lib.hid hA
    have HK := Lib.hid hK
    clear hA hK
    gi_wp2
    refine ⟨by simp, .inl ⟨_, _, rfl, run_takeDeferred HK.out, ?_⟩⟩
    have hkp := grownBy_putObj' W D (.deferred none)
    have hA2 := HA.out.grown hkp (fun r e => by cases e; exact ⟨by omega, _, HK.out, rfl⟩)
    have hrow := hA2.row
    rw [List.length_range] at hrow
    refine ⟨_, parts_results _ _ v rfl, v, rs, rfl, row_weaken hrow (by omega), fun i hi => ?_, fun i j hi hj => hA2.dis i j (by rw [List.length_range]; exact hi) (by rw [List.length_range]; exact hj), hA2.bel⟩
    have := hA2.own i (by rw [List.length_range]; exact hi)
    rw [show (List.range (pn d)).getD i 0 = i by simp [List.getD, hi]] at this
    exact this.weaken (by omega)
  case body =>
    rintro l pre x a' W hlW ⟨rl, hrl⟩ ⟨v, rs, hA⟩ rfl hlt
    have hlsz := (Array.getElem?_eq_some_iff.1 hrl).1
    have hcl := hA.box.cell
    have HA := Lib.hid hA
    clear hA hrl
    refine wpIn_block ?_
    have HN := Lib.hid (And.intro (show chunkN d x ≤ 10000000 by unfold chunkN; omega) (And.intro (show Bytes W.drew w.heap.size (chunkA A x) (chunkN d x) (prow d x) from (chunk_bytes HD.out x).since HA.out.bel.drew) (show chunkN d x = (prow d x).length by rw [prow_len]; rfl)))
    have hpl : pre.length ≤ 48 := by unfold pn at hlt; omega
    have hW0 : w.heap.size + 3 ≤ W.heap.size := by have h1 : l < W.heap.size := hlsz; omega
    refine wpIn_region_any (by kernel_rfl) ?_
    change wpAnyIn _ _ _ _ _ _ _ _ _ (World.drew _)
    refine wpAnyIn_ready (rs := [0, 1]) (by kernel_rfl) (by simp) ?_
    refine AllReadyIn.cons rfl (fun K hK => ?_) (AllReadyIn.cons rfl (fun K hK => ?_) AllReadyIn.nil)
    · go_simp
      refine hK _ _ ?_
      clear hK K
      refine wpAnyIn_ready (rs := [1]) (by kernel_rfl) (by simp) ?_
      refine AllReadyIn.cons rfl (fun K hK => ?_) AllReadyIn.nil
      go_simp
      refine hK _ _ ?_
      clear hK K
      refine wpAnyIn_ready (rs := [2]) (by kernel_rfl) (by simp) ?_
      refine AllReadyIn.cons rfl (fun K hK => ?_) AllReadyIn.nil
      go_simp
      gi_wp2_with (refine ⟨trivial, ?_⟩; gi_at_call 36; refine ((callsIn_wide.2 (clone_any (chunkA A x) (chunkN d x) (chunkN d x) (prow d x) _ _ HN.out.1 HN.out.2.1)).inRound l).mono ?_; rintro e W2 ⟨v2, rfl, ho2, b2⟩)
      obtain ⟨A2, c2, rfl, -, -, -⟩ := ho2.form
      have g2 : W.grownBy W2 none := ⟨b2.os, b2.tape, b2.output, b2.size, fun i hi _ => b2.block i hi⟩
      have HA2 := Lib.hid (HA.out.grown g2 (fun r e => by cases e))
      have HO2 := Lib.hid (And.intro g2 (show Own W2 W.heap.size (.slice A2 (chunkN d x) c2) (chunkN d x) (prow d x) from ho2))
      have hcl2 := HA2.out.box.cell
      have hcl3 := (HA2.out.box.alloc (.cells #[.slice A2 (chunkN d x) c2] 22)).cell
      clear g2 ho2 b2
      refine wpAnyIn_ready (rs := [3]) (by kernel_rfl) (by simp) ?_
      refine AllReadyIn.cons rfl (fun K hK => ?_) AllReadyIn.nil
      go_simp
      refine hK _ _ ?_
      clear hK K
      refine wpAnyIn_ready (rs := [4]) (by kernel_rfl) (by simp) ?_
      refine AllReadyIn.cons rfl (fun K hK => ?_) AllReadyIn.nil
      refine opIn_app_row (.tmp 8) (.tmp 11) rfl (w.heap.size + 3) v pre.length (hdr rs pre.length) rfl (World.ownsRow.alloc HA2.out.row _) _ (some ⟨W2.heap.size, 0, none⟩) 1 (.slice A2 (chunkN d x) c2) rfl (Reads.new W2 [Value.slice A2 (chunkN d x) c2] 22 (0, 0)) rfl (by omega) (by rw [World.size_alloc]; have := HO2.out.1.size; omega) ?_
      intro v3 W3 h3 g3
      obtain ⟨A3, c3, rfl⟩ := row_form h3
      have hb3 : Boxed W3 w.heap.size 47 v := (HA2.out.box.alloc (.cells #[.slice A2 (chunkN d x) c2] 22)).kept g3 (fun e => by have := (World.ownsRow.lt HA2.out.row _ e.symm).1; omega)
      have hcl4 := hb3.cell
      have hfz4 := hb3.frozen
      have HF := Lib.hid (parts_step (B := W0.heap.size) HA.out HO2.out.1 HO2.out.2 HN.out.2.2 h3 g3 (by omega))
      clear h3 g3 hb3
      refine hK _ _ ?_
      clear hK K
      refine wpAnyIn_ready (rs := [5]) (by kernel_rfl) (by simp) ?_
      refine AllReadyIn.cons rfl (fun K hK => ?_) AllReadyIn.nil
      go_simp
      refine hK _ _ ?_
      clear hK K
      refine wpAnyIn_done (by kernel_rfl) ?_ _
      exact HF.out
    · go_simp
      refine hK _ _ ?_
      clear hK K
      refine wpAnyIn_ready (rs := [0, 2]) (by kernel_rfl) (by simp) ?_
      refine AllReadyIn.cons rfl (fun K hK => ?_) (AllReadyIn.cons rfl (fun K hK => ?_) AllReadyIn.nil)
      · go_simp
        refine hK _ _ ?_
        clear hK K
        refine wpAnyIn_ready (rs := [2]) (by kernel_rfl) (by simp) ?_
        refine AllReadyIn.cons rfl (fun K hK => ?_) AllReadyIn.nil
        go_simp
        gi_wp2_with (refine ⟨trivial, ?_⟩; gi_at_call 36; refine ((callsIn_wide.2 (clone_any (chunkA A x) (chunkN d x) (chunkN d x) (prow d x) _ _ HN.out.1 HN.out.2.1)).inRound l).mono ?_; rintro e W2 ⟨v2, rfl, ho2, b2⟩)
        obtain ⟨A2, c2, rfl, -, -, -⟩ := ho2.form
        have g2 : W.grownBy W2 none := ⟨b2.os, b2.tape, b2.output, b2.size, fun i hi _ => b2.block i hi⟩
        have HA2 := Lib.hid (HA.out.grown g2 (fun r e => by cases e))
        have HO2 := Lib.hid (And.intro g2 (show Own W2 W.heap.size (.slice A2 (chunkN d x) c2) (chunkN d x) (prow d x) from ho2))
        have hcl2 := HA2.out.box.cell
        have hcl3 := (HA2.out.box.alloc (.cells #[.slice A2 (chunkN d x) c2] 22)).cell
        clear g2 ho2 b2
        refine wpAnyIn_ready (rs := [3]) (by kernel_rfl) (by simp) ?_
        refine AllReadyIn.cons rfl (fun K hK => ?_) AllReadyIn.nil
        go_simp
        refine hK _ _ ?_
        clear hK K
        refine wpAnyIn_ready (rs := [4]) (by kernel_rfl) (by simp) ?_
        refine AllReadyIn.cons rfl (fun K hK => ?_) AllReadyIn.nil
        refine opIn_app_row (.tmp 8) (.tmp 11) rfl (w.heap.size + 3) v pre.length (hdr rs pre.length) rfl (World.ownsRow.alloc HA2.out.row _) _ (some ⟨W2.heap.size, 0, none⟩) 1 (.slice A2 (chunkN d x) c2) rfl (Reads.new W2 [Value.slice A2 (chunkN d x) c2] 22 (0, 0)) rfl (by omega) (by rw [World.size_alloc]; have := HO2.out.1.size; omega) ?_
        intro v3 W3 h3 g3
        obtain ⟨A3, c3, rfl⟩ := row_form h3
        have hb3 : Boxed W3 w.heap.size 47 v := (HA2.out.box.alloc (.cells #[.slice A2 (chunkN d x) c2] 22)).kept g3 (fun e => by have := (World.ownsRow.lt HA2.out.row _ e.symm).1; omega)
        have hcl4 := hb3.cell
        have hfz4 := hb3.frozen
        have HF := Lib.hid (parts_step (B := W0.heap.size) HA.out HO2.out.1 HO2.out.2 HN.out.2.2 h3 g3 (by omega))
        clear h3 g3 hb3
        refine hK _ _ ?_
        clear hK K
        refine wpAnyIn_ready (rs := [5]) (by kernel_rfl) (by simp) ?_
        refine AllReadyIn.cons rfl (fun K hK => ?_) AllReadyIn.nil
        go_simp
        refine hK _ _ ?_
        clear hK K
        refine wpAnyIn_done (by kernel_rfl) ?_ _
        exact HF.out
      · go_simp
        gi_wp2_with (refine ⟨trivial, ?_⟩; gi_at_call 36; refine ((callsIn_wide.2 (clone_any (chunkA A x) (chunkN d x) (chunkN d x) (prow d x) _ _ HN.out.1 HN.out.2.1)).inRound l).mono ?_; rintro e W2 ⟨v2, rfl, ho2, b2⟩)
        obtain ⟨A2, c2, rfl, -, -, -⟩ := ho2.form
        have g2 : W.grownBy W2 none := ⟨b2.os, b2.tape, b2.output, b2.size, fun i hi _ => b2.block i hi⟩
        have HA2 := Lib.hid (HA.out.grown g2 (fun r e => by cases e))
        have HO2 := Lib.hid (And.intro g2 (show Own W2 W.heap.size (.slice A2 (chunkN d x) c2) (chunkN d x) (prow d x) from ho2))
        have hcl2 := HA2.out.box.cell
        have hcl3 := (HA2.out.box.alloc (.cells #[.slice A2 (chunkN d x) c2] 22)).cell
        clear g2 ho2 b2
        refine wpAnyIn_ready (rs := [0, 3]) (by kernel_rfl) (by simp) ?_
        refine AllReadyIn.cons rfl (fun K hK => ?_) (AllReadyIn.cons rfl (fun K hK => ?_) AllReadyIn.nil)
        · go_simp
          refine hK _ _ ?_
          clear hK K
          refine wpAnyIn_ready (rs := [3]) (by kernel_rfl) (by simp) ?_
          refine AllReadyIn.cons rfl (fun K hK => ?_) AllReadyIn.nil
          go_simp
          refine hK _ _ ?_
          clear hK K
          refine wpAnyIn_ready (rs := [4]) (by kernel_rfl) (by simp) ?_
          refine AllReadyIn.cons rfl (fun K hK => ?_) AllReadyIn.nil
          refine opIn_app_row (.tmp 8) (.tmp 11) rfl (w.heap.size + 3) v pre.length (hdr rs pre.length) rfl (World.ownsRow.alloc HA2.out.row _) _ (some ⟨W2.heap.size, 0, none⟩) 1 (.slice A2 (chunkN d x) c2) rfl (Reads.new W2 [Value.slice A2 (chunkN d x) c2] 22 (0, 0)) rfl (by omega) (by rw [World.size_alloc]; have := HO2.out.1.size; omega) ?_
          intro v3 W3 h3 g3
          obtain ⟨A3, c3, rfl⟩ := row_form h3
          have hb3 : Boxed W3 w.heap.size 47 v := (HA2.out.box.alloc (.cells #[.slice A2 (chunkN d x) c2] 22)).kept g3 (fun e => by have := (World.ownsRow.lt HA2.out.row _ e.symm).1; omega)
          have hcl4 := hb3.cell
          have hfz4 := hb3.frozen
          have HF := Lib.hid (parts_step (B := W0.heap.size) HA.out HO2.out.1 HO2.out.2 HN.out.2.2 h3 g3 (by omega))
          clear h3 g3 hb3
          refine hK _ _ ?_
          clear hK K
          refine wpAnyIn_ready (rs := [5]) (by kernel_rfl) (by simp) ?_
          refine AllReadyIn.cons rfl (fun K hK => ?_) AllReadyIn.nil
          go_simp
          refine hK _ _ ?_
          clear hK K
          refine wpAnyIn_done (by kernel_rfl) ?_ _
          exact HF.out
        · go_simp
          refine hK _ _ ?_
          clear hK K
          refine wpAnyIn_ready (rs := [0]) (by kernel_rfl) (by simp) ?_
          refine AllReadyIn.cons rfl (fun K hK => ?_) AllReadyIn.nil
          go_simp
          refine hK _ _ ?_
          clear hK K
          refine wpAnyIn_ready (rs := [4]) (by kernel_rfl) (by simp) ?_
          refine AllReadyIn.cons rfl (fun K hK => ?_) AllReadyIn.nil
          refine opIn_app_row (.tmp 8) (.tmp 11) rfl (w.heap.size + 3) v pre.length (hdr rs pre.length) rfl (World.ownsRow.alloc HA2.out.row _) _ (some ⟨W2.heap.size, 0, none⟩) 1 (.slice A2 (chunkN d x) c2) rfl (Reads.new W2 [Value.slice A2 (chunkN d x) c2] 22 (0, 0)) rfl (by omega) (by rw [World.size_alloc]; have := HO2.out.1.size; omega) ?_
          intro v3 W3 h3 g3
          obtain ⟨A3, c3, rfl⟩ := row_form h3
          have hb3 : Boxed W3 w.heap.size 47 v := (HA2.out.box.alloc (.cells #[.slice A2 (chunkN d x) c2] 22)).kept g3 (fun e => by have := (World.ownsRow.lt HA2.out.row _ e.symm).1; omega)
          have hcl4 := hb3.cell
          have hfz4 := hb3.frozen
          have HF := Lib.hid (parts_step (B := W0.heap.size) HA.out HO2.out.1 HO2.out.2 HN.out.2.2 h3 g3 (by omega))
          clear h3 g3 hb3
          refine hK _ _ ?_
          clear hK K
          refine wpAnyIn_ready (rs := [5]) (by kernel_rfl) (by simp) ?_
          refine AllReadyIn.cons rfl (fun K hK => ?_) AllReadyIn.nil
          go_simp
          refine hK _ _ ?_
          clear hK K
          refine wpAnyIn_done (by kernel_rfl) ?_ _
          exact HF.out
theorem parts_any (A : Option Addr) (c : Nat) (d : List Nat) (w : World) (h : Bytes w w.heap.size A d.length d) (hl : d.length ≤ 5000) (hc : d.length ≤ c) (hcm : c ≤ 9223372036854775807) : Calls Tryd.prog 25 #[.slice A d.length c] w (PartsPost d w) :=
  callsIn_wide.1 (parts_in A c d w h hl hc hcm)
theorem boxParts_walk (A : Option Addr) (n c : Nat) (d : List Nat) {w : World} (m : n ≤ c ∧ c ≤ 9223372036854775807) (o : Bytes w w.heap.size A n d) (hT : Tab w) :
    Calls Tryd.prog 7 #[.slice A n c] w fun e w' => e = .returned (.bool true) ∧ Below w.heap.size w w' := by
  obtain rfl := o.len
  exact boxParts_of parts_any A c d o m.1 m.2 hT
end Go.Proofs.YtgdkpmgfholnkaaDoor
