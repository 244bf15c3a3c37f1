/-
  The package's Parts: the data's rows, each in a block of its own. Conditions: the data read as bytes.
-/
import Derived.Test.YtpklcmocjimcpaaDoorZf
import Derived.RangeFuncBox
import Derived.Shelf.Abstract
import Derived.Shelf.RegionOpen

namespace Go.Proofs.YtpklcmocjimcpaaDoor
open Go.RowKit Go.Shelf Go.BigFrame
set_option maxRecDepth 100000
attribute [local go_sem] Oper.semAt_some
set_option linter.unusedSimpArgs false
set_option linter.unusedVariables false
/-- how the rows stand behind those that were handed -/
structure PartsAt (W : World) (w : World) (d : List Nat) (v : Value) (rs : Nat → Value) (pre : List Nat) : Prop where
  box : Boxed W w.heap.size 36 v
  row : W.ownsRow (w.heap.size + 3) 34 1 v pre.length (hdr rs pre.length)
  own : ∀ i, i < pre.length → Own W (w.heap.size + 3) (rs i) (prow d (pre.getD i 0)).length (prow d (pre.getD i 0))
  dis : ∀ i j, i < pre.length → j < pre.length → i ≠ j → ∀ b, (rs i).ownBlock = some b → (rs j).ownBlock ≠ some b
  bel : Below w.heap.size w W
theorem row_no {W : World} {base : Nat} {e : TypeId} {v : Value} {n : Nat} {xs : List Value} (h : W.ownsRow base e 1 v n xs) {r : Nat} {o : Obj} (ho : W.heap[r]? = some o) (hc : o.isCells = false) : v.ownBlock ≠ some r := by
  intro e1
  rcases h.2 with ⟨rfl, _⟩ | ⟨g, cap, cur, rfl, _, hg, _⟩
  · cases e1
  · injection e1 with e1
    subst e1
    rw [ho] at hg
    injection hg with hg
    subst hg
    cases hc
theorem PartsAt.grown {W W' w : World} {d : List Nat} {v : Value} {rs : Nat → Value} {pre : List Nat} {row : Option Nat} (h : PartsAt W w d v rs pre) (hg : W.grownBy W' row) (hr : ∀ r, row = some r → w.heap.size + 3 ≤ r ∧ ∃ o : Obj, W.heap[r]? = some o ∧ o.isCells = false) : PartsAt W' w d v rs pre := by
  have hno : ∀ {e : TypeId} {v : Value} {n : Nat} {xs : List Value}, W.ownsRow (w.heap.size + 3) e 1 v n xs → v.ownBlock = none ∨ v.ownBlock ≠ row := fun {e v n xs} hx => by
    rcases hv : v.ownBlock with _ | b
    · exact .inl rfl
    · right
      intro e1
      obtain ⟨-, o, ho, hc⟩ := hr b e1.symm
      exact row_no hx ho hc hv
  refine ⟨h.box.kept hg (fun e => ?_), World.ownsRow.kept h.row hg (hno h.row), fun i hi => Own.grown (h.own i hi) hg (hno (h.own i hi)), h.dis, h.bel.grown hg h.bel.size (fun k e => ?_)⟩
  · have := (hr _ e.symm).1; omega
  · have := (hr k e).1; omega
theorem opIn_app_row {F : Fence} {nF : Nat} {w : World} {o : Oper} {a : Act} {K : Act → World → Prop} {Q : Exit → Act → World → Prop} (s x : Operand)
    (ho : o.op = .call { callee := .builtin .append, args := #[s, x], argTypes := #[36, 36] })
    (base : Nat) (v : Value) (n : Nat) (xs : List Value) (hs : a.eval s = v) (hown : w.ownsRow base 34 1 v n xs)
    (B : Nat) (A : Option Addr) (c : Nat) (u : Value) (hx : a.eval x = .slice A 1 c) (hr : Reads w B 1 A 1 [u]) (hu : u.oneCell' = true) (hn : n ≤ 1000000) (hbase : base ≤ w.heap.size)
    (h : ∀ v' w', w'.ownsRow base 34 1 v' (n + 1) (xs ++ [u]) → w.grownBy w' v.ownBlock → K (a.put o.dst v') w') : Oper.wpIn F nF Tryd.prog o a w K Q := by
  obtain ⟨i0, hi0, hz0, hz1, hz2⟩ := info_parts slice_info
  obtain ⟨v', w', hrun, r1, r2, -⟩ := run_append_any (P := Tryd.prog) w base 36 o.type 34 i0 _ 1 24 Tryd.underlying36 hi0 hz0 hz1 hz2 rfl (by omega) v n xs hown B A 1 c [u] hr (by
    intro u' hu'
    obtain rfl := List.mem_singleton.1 hu'
    exact hu) (by simp only [maxLen]; omega) (by omega) hbase
  unfold Oper.wpIn
  refine ⟨?_, ?_⟩
  · simp [Oper.about, ho, resolve, Target.leads, Sem.run_pure]
  · rw [Oper.semAt_plain F _ _ (by rw [ho]; intro c hc'; cases hc')]
    simp [execOp, ho, resolve, invoke, builtin, hs, hx, hrun, Result.andThen]
    exact h v' w' r1 r2
theorem parts_step {W W2 W3 w : World} {B : Nat} {d : List Nat} {v v3 : Value} {rs : Nat → Value} {pre : List Nat} {x : Nat} {A2 : Option Addr} {n2 c2 : Nat} (hA : PartsAt W w d v rs pre) (b2 : W.grownBy W2 none) (ho2 : Own W2 W.heap.size (.slice A2 n2 c2) n2 (prow d x)) (hn2 : n2 = (prow d x).length)
    (h3 : W3.ownsRow (w.heap.size + 3) 34 1 v3 (pre.length + 1) (hdr rs pre.length ++ [.slice A2 n2 c2])) (g3 : (W2.alloc (.cells #[.slice A2 n2 c2] 34)).grownBy W3 v.ownBlock) (hW0 : w.heap.size + 3 ≤ W.heap.size) :
    KeepsFrom B W (W3.setCell ⟨w.heap.size, 0, none⟩ v3) ∧ Keep2 (w.heap.size + 1) (w.heap.size + 1 + 1) W (W3.setCell ⟨w.heap.size, 0, none⟩ v3) ∧ ∃ v rs, PartsAt (W3.setCell ⟨w.heap.size, 0, none⟩ v3) w d v rs (pre ++ [x]) := by
  have hA2 := hA.grown b2 (fun r e => by cases e)
  have hg := World.grownBy_alloc W2 (.cells #[.slice A2 n2 c2] 34) none
  have hA3 := hA2.grown hg (fun r e => by cases e)
  have ho3 := ho2.alloc (.cells #[.slice A2 n2 c2] 34)
  have hlo : ∀ k, v.ownBlock = some k → w.heap.size + 3 ≤ k := fun k hk => (World.ownsRow.lt hA3.row k hk).1
  have hs2 := b2.size
  have hs3 := hg.size
  have hne : ∀ {base : Nat} {u : Value} {n : Nat} {bs : List Nat}, Own (W2.alloc (.cells #[.slice A2 n2 c2] 34)) base u n bs → u.ownBlock = none ∨ u.ownBlock ≠ v.ownBlock := fun {base u n bs} hu => by
    rcases hb : u.ownBlock with _ | b
    · exact .inl rfl
    · exact .inr (fun e => own_ne hu hA3.row (by decide) b hb e.symm)
  have hbx := hA3.box.kept g3 (fun e => by have := hlo _ e.symm; omega)
  refine ⟨?_, ?_, v3, fun i => if i = pre.length then .slice A2 n2 c2 else rs i, ?_, ?_, ?_, ?_, ?_⟩
  · refine KeepsFrom.trans (KeepsFrom.trans (KeepsFrom.trans (KeepsFrom.of_grownBy b2 (fun j e => by cases e)) ((KeepsOthers.alloc _ _).from _)) ((KeepsOthers.of_grownBy g3 (fun j o e ho => ?_)).from _)) ((KeepsOthers.setCell _ _ _).from _)
    cases hc : o.isCells with
    | true => rfl
    | false => exact absurd e (row_no hA3.row ho hc)
  · have hf : ∀ q, w.heap.size < q → q < w.heap.size + 3 → (W3.setCell ⟨w.heap.size, 0, none⟩ v3).heap[q]? = W.heap[q]? := fun q h1 h2 => by
      rw [Below.heap_setCell _ _ _ _ (by show q ≠ w.heap.size; omega), g3.block q (by omega) (fun e => by have := hlo _ e.symm; omega), hg.block q (by omega) (by simp), b2.block q (by omega) (by simp)]
    exact ⟨hf _ (by omega) (by omega), hf _ (by omega) (by omega)⟩
  · exact hbx.set v3
  · rw [List.length_append, List.length_singleton, hdr_snoc]
    exact ownsRow_setCell_below h3 (by show w.heap.size < _; omega) _
  · intro i hi
    rw [List.length_append, List.length_singleton] at hi
    change Own _ _ (if i = pre.length then Value.slice A2 n2 c2 else rs i) _ _
    by_cases h : i = pre.length
    · subst h
      rw [if_pos rfl, show (pre ++ [x]).getD pre.length 0 = x by simp, ← hn2]
      exact ownsRow_setCell_below ((Own.grown ho3 g3 (hne ho3)).weaken hW0) (by show w.heap.size < _; omega) _
    · rw [if_neg h, show (pre ++ [x]).getD i 0 = pre.getD i 0 by simp [List.getD, List.getElem?_append_left (show i < pre.length by omega)]]
      have := hA3.own i (by omega)
      exact ownsRow_setCell_below (Own.grown this g3 (hne this)) (by show w.heap.size < _; omega) _
  · intro i j hi hj hij b hb
    rw [List.length_append, List.length_singleton] at hi hj
    change Value.ownBlock (if i = pre.length then Value.slice A2 n2 c2 else rs i) = some b at hb
    change Value.ownBlock (if j = pre.length then Value.slice A2 n2 c2 else rs j) ≠ some b
    by_cases h : i = pre.length
    · rw [if_pos h] at hb
      rw [if_neg (by omega)]
      intro e
      have := (World.ownsRow.lt ho2 b hb).1
      have := (World.ownsRow.lt (hA.own j (by omega)) b e).2
      omega
    · rw [if_neg h] at hb
      by_cases h' : j = pre.length
      · rw [if_pos h']
        intro e
        have := (World.ownsRow.lt ho2 b e).1
        have := (World.ownsRow.lt (hA.own i (by omega)) b hb).2
        omega
      · rw [if_neg h']
        exact hA.dis i j (by omega) (by omega) hij b hb
  · exact (hA3.bel.grown g3 hA3.bel.size (fun k hk => by have := hlo k hk; omega)).setCell (p := ⟨w.heap.size, 0, none⟩) (Nat.le_refl _) _
theorem parts_results (W : World) (tmps : Array Value) (v : Value) (h : tmps.getD 2 undef = v) : (results Tryd.f46 tmps).run Tryd.prog W = .ok v W := by
  have h' : tmps[2]?.getD undef = v := by simpa using h
  unfold results
  rw [Tryd.results46]
  simp [h']
set_option maxRecDepth 100000 in
set_option maxHeartbeats 2000000 in
theorem parts_in (A : Option Addr) (c : Nat) (d : List Nat) (w : World) (h : Bytes w w.heap.size A d.length d) (hl : d.length ≤ 5000) (hc : d.length ≤ c) (hcm : c ≤ 9223372036854775807) :
    CallsIn Fence.wide 5 Tryd.prog 46 #[.slice A d.length c] w (PartsPost d w) := by
  have hro : Fence.wide.round = none := rfl
  have h1 : 1 ≤ 5 := by omega
  have HD := Lib.hid h
  clear h
  refine callsIn_of_wp_marks Tryd.func46 rfl trivial ?_ hro
  simp only [Tryd.ntmps46, List.size_toArray, List.length_cons, List.length_nil, Nat.reduceAdd, Nat.reduceSub, Array.replicate_succ, Array.replicate_zero, List.push_toArray, List.append_toArray, List.nil_append, List.cons_append]
  gi_wp2_with (refine ⟨trivial, ?_⟩; gi_at_call 58; refine (callsIn_wide.2 (chunk_any _ _ _ _)).mono ?_; rintro e w' ⟨rfl, rfl⟩)
  have hbx : Boxed (((w.alloc (.cells #[.slice none 0 0] 36)).alloc (.cells #[.slice A d.length c] 34)).alloc (.cells #[.int .i64 106] 3)) w.heap.size 36 (.slice none 0 0) := ((Boxed.new w _ _).alloc _).alloc _
  have hb0 : Below w.heap.size w (((w.alloc (.cells #[.slice none 0 0] 36)).alloc (.cells #[.slice A d.length c] 34)).alloc (.cells #[.int .i64 106] 3)) := (((Below.refl _ w).alloc (Nat.le_refl _) _).alloc (by simp) _).alloc (by simp; omega) _
  have hc1 : (((w.alloc (.cells #[.slice none 0 0] 36)).alloc (.cells #[.slice A d.length c] 34)).alloc (.cells #[.int .i64 106] 3)).cell? ⟨w.heap.size + 1, 0, none⟩ = some (.slice A d.length c) := by
    have := ((Boxed.new (w.alloc (.cells #[.slice none 0 0] 36)) 34 (.slice A d.length c)).alloc (.cells #[.int .i64 106] 3)).cell
    simpa using this
  have hc2 : (((w.alloc (.cells #[.slice none 0 0] 36)).alloc (.cells #[.slice A d.length c] 34)).alloc (.cells #[.int .i64 106] 3)).cell? ⟨w.heap.size + 1 + 1, 0, none⟩ = some (.int .i64 106) := by
    have := (Boxed.new ((w.alloc (.cells #[.slice none 0 0] 36)).alloc (.cells #[.slice A d.length c] 34)) 3 (.int .i64 106)).cell
    simpa using this
  have hsz : (((w.alloc (.cells #[.slice none 0 0] 36)).alloc (.cells #[.slice A d.length c] 34)).alloc (.cells #[.int .i64 106] 3)).heap.size = w.heap.size + 3 := by simp
  generalize ((w.alloc (.cells #[.slice none 0 0] 36)).alloc (.cells #[.slice A d.length c] 34)).alloc (.cells #[.int .i64 106] 3) = W0 at *
  refine wpIn_rangeFunc_ownH hro h1 (gf := 70) (lb := #[.pointer (some ⟨w.heap.size + 1, 0, none⟩), .pointer (some ⟨w.heap.size + 1 + 1, 0, none⟩)]) rfl trivial (enters_of Tryd.func70 (by kernel_rfl) rfl)
    (chunk_stops Fence.wide 4 (fun _ => trivial) hro (by omega) (w.heap.size + 1) (w.heap.size + 1 + 1) A c d hl hc hcm W0 (by omega) (by omega) hc1 hc2) Keep2.trans (Keep2.put (by omega) (by omega)) (Below.refl _ _) (fun _ => rfl)
    (fun pre W => ∃ v rs, PartsAt W w d v rs pre)
    (fun _ _ _ => False)
    ?own1 (fun c s W W' row h => h.elim) ⟨.slice none 0 0, fun _ => undef, hbx, World.ownsRow_nil _ _ _ 1, fun i hi => absurd hi (by simp), fun i j hi => absurd hi (by simp), hb0⟩
    (fun x a' W => a' = { tmps := #[.slice A d.length c, undef, .slice none 0 0, .pointer (some ⟨w.heap.size, 0, none⟩), .slice (chunkA A x) (chunkN d x) (chunkN d x), .slice A d.length c, .func (.func 70) #[] #[.pointer (some ⟨w.heap.size + 1, 0, none⟩), .pointer (some ⟨w.heap.size + 1 + 1, 0, none⟩)], .slice (chunkA A x) (chunkN d x) (chunkN d x), undef, undef, undef, undef, undef, undef], defers := [] })
    (fun x a' => ownFrom_pure _ _)
    ?assign ?body ?done ?stop
  case own1 =>
    rintro s W W' row ⟨v, rs, h⟩ hg hr
    exact ⟨v, rs, h.grown hg (fun r e => by have := hr r e; rw [hsz] at this; exact this)⟩
  case assign =>
    rintro l pre x W K hI hK
    have HK := Lib.hid hK
    have HI := Lib.hid hI
    clear hK hI
    unfold encC
    gi_wp2
    exact HK.out _ _ (KeepsFrom.refl _ _) (Keep2.refl _ _ _) HI.out rfl
  case stop =>
    rintro D c pre W hD - h
    exact h.elim
  case done =>
    rintro D ys W hD rfl ⟨v, rs, hA⟩ hK
    have hcl := hA.box.cell
    have HA := Lib.hid hA
    have HK := Lib.hid hK
    clear hA hK
    gi_wp2
    refine ⟨by simp, .inl ⟨_, _, rfl, run_takeDeferred HK.out, ?_⟩⟩
    have hkp := grownBy_putObj' W D (.deferred none)
    have hA2 := HA.out.grown hkp (fun r e => by cases e; exact ⟨by omega, _, HK.out, rfl⟩)
    have hrow := hA2.row
    rw [List.length_range] at hrow
    refine ⟨_, parts_results _ _ v rfl, v, rs, rfl, row_weaken hrow (by omega), fun i hi => ?_, fun i j hi hj => hA2.dis i j (by rw [List.length_range]; exact hi) (by rw [List.length_range]; exact hj), hA2.bel⟩
    have := hA2.own i (by rw [List.length_range]; exact hi)
    rw [show (List.range (pn d)).getD i 0 = i by simp [List.getD, hi]] at this
    exact this.weaken (by omega)
  case body =>
    rintro l pre x a' W hlW ⟨rl, hrl⟩ ⟨v, rs, hA⟩ rfl hlt
    have hlsz := (Array.getElem?_eq_some_iff.1 hrl).1
    have hcl := hA.box.cell
    have HA := Lib.hid hA
    clear hA hrl
    refine wpIn_block ?_
    have HN := Lib.hid (And.intro (show chunkN d x ≤ 10000000 by unfold chunkN; omega) (And.intro (show Bytes W.drew w.heap.size (chunkA A x) (chunkN d x) (prow d x) from (chunk_bytes HD.out x).since HA.out.bel.drew) (show chunkN d x = (prow d x).length by rw [prow_len]; rfl)))
    have hpl : pre.length ≤ 48 := by unfold pn at hlt; omega
    have hW0 : w.heap.size + 3 ≤ W.heap.size := by have h1 : l < W.heap.size := hlsz; omega
    refine wpIn_region_any (by kernel_rfl) ?_
    change wpAnyIn _ _ _ _ _ _ _ _ _ (World.drew _)
    refine wpAnyIn_ready (rs := [0, 1]) (by kernel_rfl) (by simp) ?_
    refine AllReadyIn.cons rfl (fun K hK => ?_) (AllReadyIn.cons rfl (fun K hK => ?_) AllReadyIn.nil)
    · go_simp
      refine hK _ _ ?_
      clear hK K
      refine wpAnyIn_ready (rs := [1]) (by kernel_rfl) (by simp) ?_
      refine AllReadyIn.cons rfl (fun K hK => ?_) AllReadyIn.nil
      go_simp
      refine hK _ _ ?_
      clear hK K
      refine wpAnyIn_ready (rs := [2]) (by kernel_rfl) (by simp) ?_
      refine AllReadyIn.cons rfl (fun K hK => ?_) AllReadyIn.nil
      go_simp
      gi_wp2_with (refine ⟨trivial, ?_⟩; gi_at_call 41; refine ((callsIn_wide.2 (clone_any (chunkA A x) (chunkN d x) (chunkN d x) (prow d x) _ _ HN.out.1 HN.out.2.1)).inRound l).mono ?_; rintro e W2 ⟨v2, rfl, ho2, b2⟩)
      obtain ⟨A2, c2, rfl, -, -, -⟩ := ho2.form
      have g2 : W.grownBy W2 none := ⟨b2.os, b2.tape, b2.output, b2.size, fun i hi _ => b2.block i hi⟩
      have HA2 := Lib.hid (HA.out.grown g2 (fun r e => by cases e))
      have HO2 := Lib.hid (And.intro g2 (show Own W2 W.heap.size (.slice A2 (chunkN d x) c2) (chunkN d x) (prow d x) from ho2))
      have hcl2 := HA2.out.box.cell
      have hcl3 := (HA2.out.box.alloc (.cells #[.slice A2 (chunkN d x) c2] 34)).cell
      clear g2 ho2 b2
      refine wpAnyIn_ready (rs := [3]) (by kernel_rfl) (by simp) ?_
      refine AllReadyIn.cons rfl (fun K hK => ?_) AllReadyIn.nil
      go_simp
      refine hK _ _ ?_
      clear hK K
      refine wpAnyIn_ready (rs := [4]) (by kernel_rfl) (by simp) ?_
      refine AllReadyIn.cons rfl (fun K hK => ?_) AllReadyIn.nil
      refine opIn_app_row (.tmp 8) (.tmp 11) rfl (w.heap.size + 3) v pre.length (hdr rs pre.length) rfl (World.ownsRow.alloc HA2.out.row _) _ (some ⟨W2.heap.size, 0, none⟩) 1 (.slice A2 (chunkN d x) c2) rfl (Reads.new W2 [Value.slice A2 (chunkN d x) c2] 34 (0, 0)) rfl (by omega) (by rw [World.size_alloc]; have := HO2.out.1.size; omega) ?_
      intro v3 W3 h3 g3
      obtain ⟨A3, c3, rfl⟩ := row_form h3
      have hb3 : Boxed W3 w.heap.size 36 v := (HA2.out.box.alloc (.cells #[.slice A2 (chunkN d x) c2] 34)).kept g3 (fun e => by have := (World.ownsRow.lt HA2.out.row _ e.symm).1; omega)
      have hcl4 := hb3.cell
      have hfz4 := hb3.frozen
      have HF := Lib.hid (parts_step (B := W0.heap.size) HA.out HO2.out.1 HO2.out.2 HN.out.2.2 h3 g3 (by omega))
      clear h3 g3 hb3
      refine hK _ _ ?_
      clear hK K
      refine wpAnyIn_ready (rs := [5]) (by kernel_rfl) (by simp) ?_
      refine AllReadyIn.cons rfl (fun K hK => ?_) AllReadyIn.nil
      go_simp
      refine hK _ _ ?_
      clear hK K
      refine wpAnyIn_done (by kernel_rfl) ?_ _
      exact HF.out
    · go_simp
      refine hK _ _ ?_
      clear hK K
      refine wpAnyIn_ready (rs := [0, 2]) (by kernel_rfl) (by simp) ?_
      refine AllReadyIn.cons rfl (fun K hK => ?_) (AllReadyIn.cons rfl (fun K hK => ?_) AllReadyIn.nil)
      · go_simp
        refine hK _ _ ?_
        clear hK K
        refine wpAnyIn_ready (rs := [2]) (by kernel_rfl) (by simp) ?_
        refine AllReadyIn.cons rfl (fun K hK => ?_) AllReadyIn.nil
        go_simp
        gi_wp2_with (refine ⟨trivial, ?_⟩; gi_at_call 41; refine ((callsIn_wide.2 (clone_any (chunkA A x) (chunkN d x) (chunkN d x) (prow d x) _ _ HN.out.1 HN.out.2.1)).inRound l).mono ?_; rintro e W2 ⟨v2, rfl, ho2, b2⟩)
        obtain ⟨A2, c2, rfl, -, -, -⟩ := ho2.form
        have g2 : W.grownBy W2 none := ⟨b2.os, b2.tape, b2.output, b2.size, fun i hi _ => b2.block i hi⟩
        have HA2 := Lib.hid (HA.out.grown g2 (fun r e => by cases e))
        have HO2 := Lib.hid (And.intro g2 (show Own W2 W.heap.size (.slice A2 (chunkN d x) c2) (chunkN d x) (prow d x) from ho2))
        have hcl2 := HA2.out.box.cell
        have hcl3 := (HA2.out.box.alloc (.cells #[.slice A2 (chunkN d x) c2] 34)).cell
        clear g2 ho2 b2
        refine wpAnyIn_ready (rs := [3]) (by kernel_rfl) (by simp) ?_
        refine AllReadyIn.cons rfl (fun K hK => ?_) AllReadyIn.nil
        go_simp
        refine hK _ _ ?_
        clear hK K
        refine wpAnyIn_ready (rs := [4]) (by kernel_rfl) (by simp) ?_
        refine AllReadyIn.cons rfl (fun K hK => ?_) AllReadyIn.nil
        refine opIn_app_row (.tmp 8) (.tmp 11) rfl (w.heap.size + 3) v pre.length (hdr rs pre.length) rfl (World.ownsRow.alloc HA2.out.row _) _ (some ⟨W2.heap.size, 0, none⟩) 1 (.slice A2 (chunkN d x) c2) rfl (Reads.new W2 [Value.slice A2 (chunkN d x) c2] 34 (0, 0)) rfl (by omega) (by rw [World.size_alloc]; have := HO2.out.1.size; omega) ?_
        intro v3 W3 h3 g3
        obtain ⟨A3, c3, rfl⟩ := row_form h3
        have hb3 : Boxed W3 w.heap.size 36 v := (HA2.out.box.alloc (.cells #[.slice A2 (chunkN d x) c2] 34)).kept g3 (fun e => by have := (World.ownsRow.lt HA2.out.row _ e.symm).1; omega)
        have hcl4 := hb3.cell
        have hfz4 := hb3.frozen
        have HF := Lib.hid (parts_step (B := W0.heap.size) HA.out HO2.out.1 HO2.out.2 HN.out.2.2 h3 g3 (by omega))
        clear h3 g3 hb3
        refine hK _ _ ?_
        clear hK K
        refine wpAnyIn_ready (rs := [5]) (by kernel_rfl) (by simp) ?_
        refine AllReadyIn.cons rfl (fun K hK => ?_) AllReadyIn.nil
        go_simp
        refine hK _ _ ?_
        clear hK K
        refine wpAnyIn_done (by kernel_rfl) ?_ _
        exact HF.out
      · go_simp
        gi_wp2_with (refine ⟨trivial, ?_⟩; gi_at_call 41; refine ((callsIn_wide.2 (clone_any (chunkA A x) (chunkN d x) (chunkN d x) (prow d x) _ _ HN.out.1 HN.out.2.1)).inRound l).mono ?_; rintro e W2 ⟨v2, rfl, ho2, b2⟩)
        obtain ⟨A2, c2, rfl, -, -, -⟩ := ho2.form
        have g2 : W.grownBy W2 none := ⟨b2.os, b2.tape, b2.output, b2.size, fun i hi _ => b2.block i hi⟩
        have HA2 := Lib.hid (HA.out.grown g2 (fun r e => by cases e))
        have HO2 := Lib.hid (And.intro g2 (show Own W2 W.heap.size (.slice A2 (chunkN d x) c2) (chunkN d x) (prow d x) from ho2))
        have hcl2 := HA2.out.box.cell
        have hcl3 := (HA2.out.box.alloc (.cells #[.slice A2 (chunkN d x) c2] 34)).cell
        clear g2 ho2 b2
        refine wpAnyIn_ready (rs := [0, 3]) (by kernel_rfl) (by simp) ?_
        refine AllReadyIn.cons rfl (fun K hK => ?_) (AllReadyIn.cons rfl (fun K hK => ?_) AllReadyIn.nil)
        · go_simp
          refine hK _ _ ?_
          clear hK K
          refine wpAnyIn_ready (rs := [3]) (by kernel_rfl) (by simp) ?_
          refine AllReadyIn.cons rfl (fun K hK => ?_) AllReadyIn.nil
          go_simp
          refine hK _ _ ?_
          clear hK K
          refine wpAnyIn_ready (rs := [4]) (by kernel_rfl) (by simp) ?_
          refine AllReadyIn.cons rfl (fun K hK => ?_) AllReadyIn.nil
          refine opIn_app_row (.tmp 8) (.tmp 11) rfl (w.heap.size + 3) v pre.length (hdr rs pre.length) rfl (World.ownsRow.alloc HA2.out.row _) _ (some ⟨W2.heap.size, 0, none⟩) 1 (.slice A2 (chunkN d x) c2) rfl (Reads.new W2 [Value.slice A2 (chunkN d x) c2] 34 (0, 0)) rfl (by omega) (by rw [World.size_alloc]; have := HO2.out.1.size; omega) ?_
          intro v3 W3 h3 g3
          obtain ⟨A3, c3, rfl⟩ := row_form h3
          have hb3 : Boxed W3 w.heap.size 36 v := (HA2.out.box.alloc (.cells #[.slice A2 (chunkN d x) c2] 34)).kept g3 (fun e => by have := (World.ownsRow.lt HA2.out.row _ e.symm).1; omega)
          have hcl4 := hb3.cell
          have hfz4 := hb3.frozen
          have HF := Lib.hid (parts_step (B := W0.heap.size) HA.out HO2.out.1 HO2.out.2 HN.out.2.2 h3 g3 (by omega))
          clear h3 g3 hb3
          refine hK _ _ ?_
          clear hK K
          refine wpAnyIn_ready (rs := [5]) (by kernel_rfl) (by simp) ?_
          refine AllReadyIn.cons rfl (fun K hK => ?_) AllReadyIn.nil
          go_simp
          refine hK _ _ ?_
          clear hK K
          refine wpAnyIn_done (by kernel_rfl) ?_ _
          exact HF.out
        · go_simp
          refine hK _ _ ?_
          clear hK K
          refine wpAnyIn_ready (rs := [0]) (by kernel_rfl) (by simp) ?_
          refine AllReadyIn.cons rfl (fun K hK => ?_) AllReadyIn.nil
          go_simp
          refine hK _ _ ?_
          clear hK K
          refine wpAnyIn_ready (rs := [4]) (by kernel_rfl) (by simp) ?_
          refine AllReadyIn.cons rfl (fun K hK => ?_) AllReadyIn.nil
          refine opIn_app_row (.tmp 8) (.tmp 11) rfl (w.heap.size + 3) v pre.length (hdr rs pre.length) rfl (World.ownsRow.alloc HA2.out.row _) _ (some ⟨W2.heap.size, 0, none⟩) 1 (.slice A2 (chunkN d x) c2) rfl (Reads.new W2 [Value.slice A2 (chunkN d x) c2] 34 (0, 0)) rfl (by omega) (by rw [World.size_alloc]; have := HO2.out.1.size; omega) ?_
          intro v3 W3 h3 g3
          obtain ⟨A3, c3, rfl⟩ := row_form h3
          have hb3 : Boxed W3 w.heap.size 36 v := (HA2.out.box.alloc (.cells #[.slice A2 (chunkN d x) c2] 34)).kept g3 (fun e => by have := (World.ownsRow.lt HA2.out.row _ e.symm).1; omega)
          have hcl4 := hb3.cell
          have hfz4 := hb3.frozen
          have HF := Lib.hid (parts_step (B := W0.heap.size) HA.out HO2.out.1 HO2.out.2 HN.out.2.2 h3 g3 (by omega))
          clear h3 g3 hb3
          refine hK _ _ ?_
          clear hK K
          refine wpAnyIn_ready (rs := [5]) (by kernel_rfl) (by simp) ?_
          refine AllReadyIn.cons rfl (fun K hK => ?_) AllReadyIn.nil
          go_simp
          refine hK _ _ ?_
          clear hK K
          refine wpAnyIn_done (by kernel_rfl) ?_ _
          exact HF.out
theorem parts_any (A : Option Addr) (c : Nat) (d : List Nat) (w : World) (h : Bytes w w.heap.size A d.length d) (hl : d.length ≤ 5000) (hc : d.length ≤ c) (hcm : c ≤ 9223372036854775807) : Calls Tryd.prog 46 #[.slice A d.length c] w (PartsPost d w) :=
  callsIn_wide.1 (parts_in A c d w h hl hc hcm)
end Go.Proofs.YtpklcmocjimcpaaDoor

/-
  A state is checkpointed. Conditions: no write fails; all lies where it is said to; small numbers.
-/
namespace Go.Proofs.YtpklcmocjimcpaaDoor
open Go.RowKit
set_option maxRecDepth 100000
set_option linter.unusedSimpArgs false
set_option linter.unusedVariables false
theorem run_storeVar_cell1 {P : Program} (w : World) (g i : Nat) (ty : TypeId) (v : Value) (ht : w.there g i 1) (hi : (P.info? ty).map (·.size) = some 1) (h1 : v.oneCell' = true) :
    (storeVar ty ⟨g, i, none⟩ v).run P w = .ok () (w.setCell ⟨g, i, none⟩ v) := by
  have := run_storeCells_cells (P := P) g i [v] 0 w (fun j hj => by simpa using (ht j (by simpa using hj)).1) (fun j hj => by simpa using (ht j (by simpa using hj)).2) (fun u hu => by simp at hu; subst hu; exact h1)
  have hc : v.cells = #[v] := by cases v <;> first | rfl | cases h1
  cases hq : P.info? ty with
  | none => simp [hq] at hi
  | some i0 =>
    have hs : i0.size = 1 := by simpa [hq] using hi
    simp only [Nat.add_zero] at this
    simp [storeVar, sizeOf, typeInfo, hq, hc, hs, this, World.setCells]
/-- one cell of a block known whole is stored -/
theorem wpList_set_blk1 {P : Program} {ops : Array Oper} {rest : List Oper} {o : Oper} {a : Act} {w : World} {Q : Exit → Act → World → Prop} (hgd : o.guard = none) (ty : TypeId) (x y : Operand) (ho : o.op = .store ty x y)
    (g i : Nat) (t : TypeId) (cs : Array Value) (v : Value) (hx : a.eval x = .pointer (some ⟨g, i, none⟩)) (hy : a.eval y = v) (hB : Blk w g t cs) (hs : i < cs.size) (hi : (P.info? ty).map (·.size) = some 1) (h1 : v.oneCell' = true)
    (h : ∀ w', Blk w' g t (cs.setIfInBounds i v) → Only [g] w w' → w'.heap.size = w.heap.size → wpList P ops Q rest (a.put o.dst undef) w') : wpList P ops Q (o :: rest) a w :=
  wpList_plain hgd fun _ hK => by
    unfold Oper.wp execOp
    simp only [ho, hx, hy, Instr.storeAt, Instr.sureAddr, Sem.run_bind, Sem.run_pure, Result.andThen_ok, run_storeVar_cell1 w g i ty v (hB.there (by omega)) hi h1]
    exact hK _ _ (h _ (hB.set_ i v) ((Only.refl _ _).setCell (.inl (by simp)) _) (by simp [World.setCell]))
/-- the sectors of a state, of its top -/
noncomputable def bodyS (k g first : Nat) (d : List Nat) : List Sec := (List.range (pn d)).map fun (i : Nat) => sealRes k g ((first : Int) + (i : Int)) (prow d i)
noncomputable def topS (g : Nat) (d : List Nat) : List Sec := [sealRes 1 g 0 (numB d.length)]
noncomputable def DM.ckpt (n : Nat) (d : DM) (g : Nat) (st : List Nat) : DM × Nat :=
  if (d.putRow (stateAt n g) (bodyS 2 g 0 st)).2 = 0 then (d.putRow (stateAt n g) (bodyS 2 g 0 st)).1.putRow (g % 2) (topS g st) else d.putRow (stateAt n g) (bodyS 2 g 0 st)
theorem six_row (f : Nat → Sec) (m : Nat) : sixCells f m = ((List.range m).map f).flatMap Sec.cs := six_flat f m
theorem prow_small (d : List Nat) (i : Nat) : (prow d i).length ≤ 106 := by rw [prow_len]; omega
theorem seal_ok {k g n : Int} {m : Nat} (hb : isBoxB k g n = true) (hm : m ≤ 106) : sealErr k g n m = 0 := by unfold sealErr; rw [if_pos hb, if_pos hm]
theorem layout_range {w : World} {gj n g gen used : Nat} {vs vt : Value} {stuck : Bool} (h : Blk w gj 67 (jcells n g gen vs vt used stuck)) : w.rangeAt gj 0 [.int .i64 (areaOf n), .int .i64 (logOf n)] := fun j u hj => by
  rw [Nat.zero_add, h.cell]
  have : j = 0 ∨ j = 1 := by
    have : j < 2 := by simpa using (List.getElem?_eq_some_iff.1 hj).1
    omega
  rcases this with rfl | rfl <;> simpa [jcells] using hj
theorem layout_size : (Tryd.prog.info? 64).map (·.size) = some 2 := by kernel_rfl
theorem tab_below {w w' : World} {B : Nat} (h : Tab w) (hb : Below B w w') (hB : 0 < B) : Tab w' := fun i hi => (hb.cell (p := ⟨0, i, none⟩) hB).trans (h i hi)
theorem body_cells (k g first : Nat) (d : List Nat) : sixCells (sealRow k g first (prow d) (pn d)) (pn d) = (bodyS k g first d).flatMap Sec.cs := by
  rw [six_row]
  congr 1
  exact List.map_congr_left fun i hi => by unfold sealRow; rw [if_pos (List.mem_range.1 hi)]
theorem body_len (k g first : Nat) (d : List Nat) : (bodyS k g first d).length = pn d := by simp [bodyS]
theorem top_cells (g : Nat) (d : List Nat) : sixCells (sealRow 1 g (0 : Nat) (fun _ => numB d.length) 1) 1 = (topS g d).flatMap Sec.cs := by
  rw [six_row]
  simp [topS, sealRow]
theorem slice_of {w : World} {base n size : Nat} {e : TypeId} {v : Value} {xs : List Value} (h : w.ownsRow base e size v n xs) : ∃ A c, v = .slice A n c := by
  rcases h.2 with ⟨rfl, hn⟩ | ⟨g', cap, cur, rfl, _⟩
  · rw [hn]; exact ⟨_, _, rfl⟩
  · exact ⟨_, _, rfl⟩
theorem Holds.more {w0 w w' : World} {g : Nat} {d : DM} {X Y : List Nat} (h : Holds w0 w g d X) (hb : Below w.heap.size w w') (hY : ∀ k ∈ Y, w.heap.size ≤ k ∧ k < w'.heap.size) : Holds w0 w' g d (Y ++ X) := by
  obtain ⟨F, h1, h2, h3⟩ := h
  refine ⟨F, h1.of (below_keeps hb h1.under), h2.trans (hb.mono h2.size), fun k hk => ?_⟩
  rcases List.mem_append.1 hk with hk | hk
  · exact ⟨fun hF => by have := h1.under _ hF; have := (hY k hk).1; omega, (hY k hk).2⟩
  · exact ⟨(h3 k hk).1, Nat.lt_of_lt_of_le (h3 k hk).2 hb.size⟩
theorem own_blk_in {w : World} {base n size m c : Nat} {e : TypeId} {A : Option Addr} {xs : List Value} (h : w.ownsRow base e size (.slice A n c) m xs) : ∀ k ∈ blkOf A, base ≤ k ∧ k < w.heap.size := fun k hk => by
  cases A with
  | none => cases hk
  | some ad =>
    simp only [blkOf, List.mem_singleton] at hk
    subst hk
    exact World.ownsRow.lt h ad.block rfl
theorem ckpt_rows {n g : Nat} {d : DM} {st : List Nat} (hok : (d.ckpt n g st).2 = 0) (A B : Option Addr) (c b : Nat) : (d.putRows [⟨stateAt n g, A, c, bodyS 2 g 0 st⟩, ⟨g % 2, B, b, topS g st⟩]).2 = 0 ∧ (d.putRows [⟨stateAt n g, A, c, bodyS 2 g 0 st⟩, ⟨g % 2, B, b, topS g st⟩]).1 = (d.ckpt n g st).1 := by
  unfold DM.ckpt at *
  by_cases h1 : (d.putRow (stateAt n g) (bodyS 2 g 0 st)).2 = 0
  · rw [if_pos h1] at hok ⊢
    simp [DM.putRows, h1, hok]
  · rw [if_neg h1] at hok
    exact absurd hok h1
theorem stateAt_small {n g : Nat} (hn : n ≤ 4096) : stateAt n g ≤ 1367 := by
  have h1 := area_small hn
  unfold stateAt
  have : g % 2 = 0 ∨ g % 2 = 1 := by omega
  rcases this with h | h <;> rw [h] <;> omega
set_option maxRecDepth 100000 in
set_option maxHeartbeats 4000000 in
theorem begin_good {w0 w : World} {g gj n gen0 used : Nat} {vs vt : Value} {d : DM} {X : List Nat} (h : Holds w0 w g d X) (hJ : Blk w gj 67 (jcells n g gen0 vs vt used false)) (hgj : gj ∈ X) (hgj0 : w0.heap.size ≤ gj) (hn : n ≤ 4096)
    (gen : Nat) (hgen : gen ≤ 4611686018427387904) (A : Option Addr) (c : Nat) (st : List Nat) (hst : Bytes w w.heap.size A st.length st) (hl : st.length ≤ 5000) (hlc : st.length ≤ c) (hcm : c ≤ 9223372036854775807)
    (hT : Tab w) (hw0 : 0 < w0.heap.size) (hAx : 0 < st.length → ∀ k ∈ blkOf A, k ∈ X) (hf : Far d (pn st + 3)) (hok : (d.ckpt n gen st).2 = 0) :
    Calls Tryd.prog 31 #[.pointer (some ⟨gj, 0, none⟩), .int .i64 gen, .slice A st.length c] w fun e w' => ∃ B cc, e = .returned .nilIface ∧ Holds w0 w' g (d.ckpt n gen st).1 (blkOf B ++ X) ∧ (∀ k ∈ blkOf B, w.heap.size ≤ k) ∧
      Blk w' gj 67 (jcells n g gen (.slice B st.length cc) (.slice none 0 0) 0 false) ∧ Own w' w.heap.size (.slice B st.length cc) st.length st ∧ (∀ k ∈ X, k ≠ gj → w'.heap[k]? = w.heap[k]?) ∧ w.heap.size ≤ w'.heap.size := by
  have hpos : 0 < w.heap.size := Nat.lt_of_lt_of_le hw0 h.size
  have hXl : ∀ k ∈ X, k < w.heap.size := by obtain ⟨F, h1, h2, h3⟩ := h; exact fun k hk => (h3 k hk).2
  have h256 := hst.2
  have H := Lib.hid h
  have HJ := Lib.hid hJ
  have HS := Lib.hid hst
  have HT := Lib.hid hT
  have HX := Lib.hid hXl
  have HOK := Lib.hid hok
  have hpn : pn st ≤ 48 := by unfold pn; omega
  clear h hJ hst hT hXl hok
  go_enter Tryd.func31, Tryd.ntmps31
  go_wp2_with fail
  refine (parts_any A c st w HS.out hl hlc hcm).mono ?_
  rintro e w1 ⟨v, rs, rfl, hrow, hown, -, b1⟩
  obtain ⟨Av, cv, rfl⟩ : ∃ Av cv, v = .slice Av (pn st) cv := by
    rcases hrow.2 with ⟨rfl, hn⟩ | ⟨g', cap, cur, rfl, _⟩
    · rw [hn]; exact ⟨_, _, rfl⟩
    · exact ⟨_, _, rfl⟩
  have hRB : RowsB w1 w1.heap.size Av (pn st) rs (prow st) := ⟨Reads.of_own hrow, fun i hi => by
    obtain ⟨A', c', h1, h2, h3, -⟩ := (hown i hi).form
    refine ⟨A', c', h1, ?_, fun b hb => h256 b (List.mem_of_mem_drop (List.mem_of_mem_take hb))⟩
    have := hown i hi
    rw [h1] at this
    exact Reads.of_own this⟩
  have HRB := Lib.hid hRB
  have B1 := Lib.hid b1
  have hs1 := b1.size
  clear hrow hown hRB b1
  go_wp2_with fail
  refine (jsealed_any 2 gen 0 Av (pn st) cv rs (prow st) w1 (by omega) (by omega) HRB.out (tab_below HT.out B1.out hpos) (Nat.lt_of_lt_of_le hpos B1.out.size) (fun i hi => seal_ok (by simp [isBoxB]; omega) (prow_small _ _))).mono ?_
  rintro e w2 ⟨v, rfl, hrow, b2⟩
  obtain ⟨As, cs, rfl⟩ := slice_of hrow
  rw [show ((2 : Int)) = ((2 : Nat) : Int) from rfl] at hrow
  rw [body_cells] at hrow
  have HRW := Lib.hid hrow
  have B2 := Lib.hid (B1.out.trans (b2.mono B1.out.size))
  clear hrow b2 HRB
  go_wp2_with fail
  refine (jpacked_any st.length w2).mono ?_
  rintro e w3 ⟨A3, c3, rfl, hown3, b3⟩
  have B3 := Lib.hid (B2.out.trans (b3.mono B2.out.size))
  have RW3 := Lib.hid (row_of HRW.out fun x hx => b3.block x (row_under HRW.out x hx))
  have HO3 := Lib.hid hown3
  clear hown3 b3 HRW
  go_wp2_with fail
  have hRB2 : RowsB (w3.alloc (.cells #[.slice A3 8 c3] 34)) (w3.alloc (.cells #[.slice A3 8 c3] 34)).heap.size (some ⟨w3.heap.size, 0, none⟩) 1 (fun _ => .slice A3 8 c3) (fun _ => numB st.length) := by
    refine ⟨?_, fun i _ => ⟨A3, c3, by rw [numB_len], ?_, numB_lt _⟩⟩
    · have := Reads.new w3 [.slice A3 8 c3] 34 (0, 0)
      simpa using this
    · have := (Reads.of_own HO3.out).alloc (Nat.le_refl _) (.cells #[.slice A3 8 c3] 34)
      rw [numB_len]
      exact this.more (by simp)
  have B4 := Lib.hid (B3.out.alloc B3.out.size (.cells #[.slice A3 8 c3] 34))
  have RW4 := Lib.hid (RW3.out.alloc (.cells #[.slice A3 8 c3] 34))
  generalize w3.alloc (.cells #[.slice A3 8 c3] 34) = w4 at *
  refine (jsealed_any 1 gen 0 _ 1 1 _ _ w4 (by omega) (by omega) hRB2 (tab_below HT.out B4.out hpos) (Nat.lt_of_lt_of_le hpos B4.out.size) (fun i hi => seal_ok (by simp [isBoxB]; omega) (by rw [numB_len]; omega))).mono ?_
  rintro e w5 ⟨v, rfl, hrow, b5⟩
  obtain ⟨At, ct, rfl⟩ := slice_of hrow
  rw [top_cells] at hrow
  have RT5 := Lib.hid hrow
  have B5 := Lib.hid (B4.out.trans (b5.mono B4.out.size))
  have RW5 := Lib.hid (row_of RW4.out fun x hx => b5.block x (row_under RW4.out x hx))
  have hgl := HX.out gj hgj
  have J5 := Lib.hid (HJ.out.below B5.out hgl)
  have hul := Tryd.underlying64
  have hzr := row_zero
  have hzl2 : ∀ w, (zeroValue 64).run Tryd.prog w = .ok (.agg #[.int .i64 0, .int .i64 0]) w := fun w => by kernel_rfl
  clear hrow b5 hRB2 HO3 RW3 RW4 B1 B2 B3
  go_wp2_with (first
    | (refine wpList_load_mid rfl 64 (.tmp 36) rfl gj 0 rfl [.int .i64 (areaOf n), .int .i64 (logOf n)] _ (layout_range J5.out) hul rfl layout_size ?_)
    | (go_at_call 48; refine (stateAt_any n gen _ hn).mono ?_; rintro e w6 ⟨rfl, b6⟩)
    | (go_at_call 49; refine (topAt_any gen _).mono ?_; rintro e w' ⟨rfl, rfl⟩))
  have hcells : (#[.int .i64 (stateAt n gen), .slice As (pn st) cs, .int .i64 ((gen : Int) % 2), .slice At 1 ct] : Array Value) = (([⟨stateAt n gen, As, cs, bodyS 2 gen 0 st⟩, ⟨gen % 2, At, ct, topS gen st⟩] : List RowV).flatMap RowV.cs).toArray := by
    simp [RowV.cs, body_len, topS]
  have hmod : (((gen % 2 : Nat) : Nat) : Int) = (gen : Int) % 2 := by omega
  try rw [hmod]
  rw [hcells]
  have B6 := B5.out.trans (b6.mono B5.out.size)
  have RW6 := row_of RW5.out fun x hx => b6.block x (row_under RW5.out x hx)
  have RT6 := row_of RT5.out fun x hx => b6.block x (row_under RT5.out x hx)
  have J6 := J5.out.below b6 J5.out.lt
  have hB7 := B6.alloc B6.size (.cells (([⟨stateAt n gen, As, cs, bodyS 2 gen 0 st⟩, ⟨gen % 2, At, ct, topS gen st⟩] : List RowV).flatMap RowV.cs).toArray 71)
  have RW7 := RW6.alloc (.cells (([⟨stateAt n gen, As, cs, bodyS 2 gen 0 st⟩, ⟨gen % 2, At, ct, topS gen st⟩] : List RowV).flatMap RowV.cs).toArray 71)
  have RT7 := RT6.alloc (.cells (([⟨stateAt n gen, As, cs, bodyS 2 gen 0 st⟩, ⟨gen % 2, At, ct, topS gen st⟩] : List RowV).flatMap RowV.cs).toArray 71)
  have J7 := Lib.hid (J6.alloc (.cells (([⟨stateAt n gen, As, cs, bodyS 2 gen 0 st⟩, ⟨gen % 2, At, ct, topS gen st⟩] : List RowV).flatMap RowV.cs).toArray 71))
  have BR := Blk.new w6 71 (([⟨stateAt n gen, As, cs, bodyS 2 gen 0 st⟩, ⟨gen % 2, At, ct, topS gen st⟩] : List RowV).flatMap RowV.cs).toArray
  have hrr := Reads.newN w6 (([⟨stateAt n gen, As, cs, bodyS 2 gen 0 st⟩, ⟨gen % 2, At, ct, topS gen st⟩] : List RowV).flatMap RowV.cs) 2 2 71 (0, 0) rfl
  have hs4 := B4.out.size
  have hX' : ∀ k ∈ w6.heap.size :: (blkOf As ++ blkOf At), w.heap.size ≤ k ∧ k < (w6.alloc (.cells (([⟨stateAt n gen, As, cs, bodyS 2 gen 0 st⟩, ⟨gen % 2, At, ct, topS gen st⟩] : List RowV).flatMap RowV.cs).toArray 71)).heap.size := fun k hk => by
    simp only [List.mem_cons, List.mem_append] at hk
    rcases hk with rfl | hk | hk
    · exact ⟨B6.size, by simp⟩
    · have := own_blk_in RW7 k hk; omega
    · have := own_blk_in RT7 k hk; omega
  have H7 := Lib.hid (H.out.more hB7 hX')
  obtain ⟨ho1, ho2⟩ := ckpt_rows HOK.out As At cs ct
  have hsa := stateAt_small (g := gen) hn
  have hfar : Far d (stepsOf ([⟨stateAt n gen, As, cs, bodyS 2 gen 0 st⟩, ⟨gen % 2, At, ct, topS gen st⟩] : List RowV)) := hf.less (by simp [stepsOf, body_len, topS])
  have HRW7 := Lib.hid (Reads.of_own RW7)
  have HRT7 := Lib.hid (Reads.of_own RT7)
  have HB7 := Lib.hid hB7
  have hrr' := Lib.hid (hrr.more (B' := (w6.alloc (.cells (([⟨stateAt n gen, As, cs, bodyS 2 gen 0 st⟩, ⟨gen % 2, At, ct, topS gen st⟩] : List RowV).flatMap RowV.cs).toArray 71)).heap.size) (by simp))
  have hrows : ∀ r ∈ ([⟨stateAt n gen, As, cs, bodyS 2 gen 0 st⟩, ⟨gen % 2, At, ct, topS gen st⟩] : List RowV), (∀ k ∈ blkOf r.A, k ∈ w6.heap.size :: (blkOf As ++ blkOf At) ++ X) ∧ Reads (w6.alloc (.cells (([⟨stateAt n gen, As, cs, bodyS 2 gen 0 st⟩, ⟨gen % 2, At, ct, topS gen st⟩] : List RowV).flatMap RowV.cs).toArray 71)) (w6.alloc (.cells (([⟨stateAt n gen, As, cs, bodyS 2 gen 0 st⟩, ⟨gen % 2, At, ct, topS gen st⟩] : List RowV).flatMap RowV.cs).toArray 71)).heap.size 128 r.A r.ss.length (r.ss.flatMap Sec.cs) ∧ r.at_ + r.ss.length ≤ 1000000 := by
    intro r hr
    simp only [List.mem_cons, List.not_mem_nil, or_false] at hr
    rcases hr with rfl | rfl
    · refine ⟨fun k hk => by simp [show k ∈ blkOf As from hk], ?_, ?_⟩
      · show Reads _ _ 128 As (bodyS 2 gen 0 st).length _
        rw [body_len]
        exact HRW7.out
      · show stateAt n gen + (bodyS 2 gen 0 st).length ≤ _
        rw [body_len]; omega
    · refine ⟨fun k hk => by simp [show k ∈ blkOf At from hk], HRT7.out, ?_⟩
      show gen % 2 + 1 ≤ _
      omega
  have HRS := Lib.hid hrows
  clear hrows RW6 RT6 J6 RW7 RT7 hB7 B6 hcells hrr
  generalize hwx : w6.alloc (.cells (([⟨stateAt n gen, As, cs, bodyS 2 gen 0 st⟩, ⟨gen % 2, At, ct, topS gen st⟩] : List RowV).flatMap RowV.cs).toArray 71) = wx at *
  refine (write_good H7.out _ J7.out rfl (by simp [hgj]) (some ⟨w6.heap.size, 0, none⟩) 2 [⟨stateAt n gen, As, cs, bodyS 2 gen 0 st⟩, ⟨gen % 2, At, ct, topS gen st⟩] (fun k hk => by simp [blkOf] at hk; simp [hk]) hrr'.out HRS.out hfar (by simp) ho1).mono ?_
  rintro e w8 ⟨rfl, h8, k8⟩
  rw [ho2] at h8
  have H8 := Lib.hid (h8.mono (Y := X) (fun k hk => List.mem_append_right _ hk))
  have hk8 : Keep X wx w8 := Keep.mono k8 (fun k hk => List.mem_append_right _ hk)
  have J8 := Lib.hid (hk8.blk hgj J7.out)
  have hkx : ∀ k ∈ X, w8.heap[k]? = w.heap[k]? := fun k hk => (hk8.2 k hk).trans (HB7.out.block k (HX.out k hk))
  have hsz8 : w.heap.size ≤ w8.heap.size := Nat.le_trans HB7.out.size hk8.1
  have HS8 : Bytes w8 w8.heap.size A st.length st := ⟨(Nat.eq_zero_or_pos st.length).elim (fun h0 => ⟨HS.out.1.1, fun hn => absurd hn (by omega)⟩) (fun h0 => HS.out.1.blk (fun k hk => hkx k (hAx h0 k hk)) hsz8), HS.out.2⟩
  have HKX := Lib.hid hkx
  have HSS := Lib.hid HS8
  clear h8 k8 hk8 hkx HS8 H7 J7 HRS hrr' HRW7 HRT7
  go_wp2_with fail
  refine (clone_any A st.length c st w8 _ (by omega) HSS.out).mono ?_
  rintro e w9 ⟨v, rfl, hown, b9⟩
  obtain ⟨B, cc, rfl⟩ := slice_of hown
  have J9 := Lib.hid (J8.out.below b9 J8.out.lt)
  have HO := Lib.hid hown
  have B9 := Lib.hid b9
  clear hown b9
  go_wp2_with (first
    | (refine wpList_set_blk1 rfl 3 (.tmp 57) (.tmp 53) rfl gj 3 67 _ (.int .i64 gen) rfl rfl J9.out (by simp [jcells]) (by kernel_rfl) rfl ?_; intro wa hba hoa hsa)
    | (refine wpList_set_blk1 rfl 34 (.tmp 59) (.tmp 55) rfl gj 4 67 _ (.slice B st.length cc) rfl rfl hba (by simp [jcells]) (by kernel_rfl) rfl ?_; intro wb hbb hob hsb)
    | (refine wpList_set_blk1 rfl 36 (.tmp 63) (.const (.slice none 0 0)) rfl gj 5 67 _ (.slice none 0 0) rfl rfl hbb (by simp [jcells]) (by kernel_rfl) rfl ?_; intro wc hbc hoc hsc)
    | (refine wpList_set_blk1 rfl 3 (.tmp 65) (.const (.int .i64 0)) rfl gj 6 67 _ (.int .i64 0) rfl rfl hbc (by simp [jcells]) (by kernel_rfl) rfl ?_; intro wd hbd hod hsd))
  go_ret
  have hon : Only [gj] w9 wd := ((hoa.trans hob (Fresh.refl _ _)).trans hoc (Fresh.refl _ _)).trans hod (Fresh.refl _ _)
  have hgl8 := J8.out.lt
  refine ⟨B, cc, rfl, (H8.out.more B9.out (fun k hk => own_blk_in HO.out k hk)).kept (by simp [hgj]) hon hgj0, (fun k hk => by have := own_blk_in HO.out k hk; omega), ?_, ?_, ?_, ?_⟩
  · simpa [jcells] using hbd
  · have := row_of HO.out (w' := wd) (fun k hk => by
      have h1 := row_over HO.out k hk
      exact hon.block k (row_under HO.out k hk) (by simp; omega))
    exact row_weaken this hsz8
  · intro k hk hne
    have hk1 := HX.out k hk
    rw [hon.block k (Nat.lt_of_lt_of_le (Nat.lt_of_lt_of_le hk1 hsz8) B9.out.size) (by simpa using hne), B9.out.block k (Nat.lt_of_lt_of_le hk1 hsz8)]
    exact HKX.out k hk
  · exact Nat.le_trans hsz8 (Nat.le_trans B9.out.size hon.size)
end Go.Proofs.YtpklcmocjimcpaaDoor

/-
  A journal is laid on a disk. Conditions: no write fails; the disk lies where it is said to; small numbers.
-/
namespace Go.Proofs.YtpklcmocjimcpaaDoor
open Go.RowKit
set_option maxRecDepth 100000
set_option linter.unusedSimpArgs false
set_option linter.unusedVariables false
/-- a disk behind Format -/
noncomputable def DM.fmt (n : Nat) (d : DM) (st : List Nat) : DM × Nat := if (d.putRow 0 [Sec.zero, Sec.zero]).2 = 0 then (d.putRow 0 [Sec.zero, Sec.zero]).1.ckpt n 1 st else d.putRow 0 [Sec.zero, Sec.zero]
theorem journal_zero (w : World) : (zeroValue 67).run Tryd.prog w = .ok (.agg #[.int .i64 0, .int .i64 0, .pointer none, .int .i64 0, .slice none 0 0, .slice none 0 0, .int .i64 0, .bool false]) w := by kernel_rfl
theorem layout_zero (w : World) : (zeroValue 64).run Tryd.prog w = .ok (.agg #[.int .i64 0, .int .i64 0]) w := by kernel_rfl
set_option maxRecDepth 100000 in
set_option maxHeartbeats 4000000 in
theorem format_good {w0 w : World} {g n : Nat} {d : DM} {X : List Nat} (h : Holds w0 w g d X) (hdn : d.n = n) (hn : n ≤ 4096) (hn8 : 8 ≤ n) (A : Option Addr) (c : Nat) (st : List Nat) (hst : Bytes w w.heap.size A st.length st) (hl : st.length ≤ 5000) (hlc : st.length ≤ c) (hcm : c ≤ 9223372036854775807) (hfit : pn st ≤ areaOf n)
    (hT : Tab w) (hw0 : 0 < w0.heap.size) (hAx : ∀ k ∈ blkOf A, k ∈ X) (hf : Far d (pn st + 6)) (hok1 : (d.putRow 0 [Sec.zero, Sec.zero]).2 = 0) (hok2 : ((d.putRow 0 [Sec.zero, Sec.zero]).1.ckpt n 1 st).2 = 0) :
    Calls Tryd.prog 10 #[.pointer (some ⟨g, 0, none⟩), .slice A st.length c] w fun e w' => ∃ gj B cc, e = .returned (.tuple #[.pointer (some ⟨gj, 0, none⟩), .nilIface]) ∧ Holds w0 w' g ((d.putRow 0 [Sec.zero, Sec.zero]).1.ckpt n 1 st).1 (blkOf B ++ gj :: X) ∧
      Blk w' gj 67 (jcells n g 1 (.slice B st.length cc) (.slice none 0 0) 0 false) ∧ Own w' w.heap.size (.slice B st.length cc) st.length st ∧ Keep X w w' ∧ w.heap.size ≤ gj ∧ gj ∉ blkOf B := by
  have hpos : 0 < w.heap.size := Nat.lt_of_lt_of_le hw0 h.size
  have hXl : ∀ k ∈ X, k < w.heap.size := by obtain ⟨F, h1, h2, h3⟩ := h; exact fun k hk => (h3 k hk).2
  have H := Lib.hid h
  have HS := Lib.hid hst
  have HT := Lib.hid hT
  have HX := Lib.hid hXl
  have HOK := Lib.hid hok1
  have HOK2 := Lib.hid hok2
  have hz := journal_zero
  have hz2 := layout_zero
  clear h hst hT hXl hok1 hok2
  go_enter Tryd.func10, Tryd.ntmps10
  go_wp2_with fail
  refine (hold_len H.out).mono ?_
  rintro e w' ⟨rfl, rfl⟩
  rw [hdn]
  have hd8 : decide ((n : Int) < 8) = false := by simp; omega
  have hd8' : decide (n < 8) = false := by simp; omega
  go_wp2_with fail
  refine (hold_len H.out).mono ?_
  rintro e w' ⟨rfl, rfl⟩
  rw [hdn]
  go_wp2_with fail
  refine (layoutOf_any n w (by omega) hn).mono ?_
  rintro e w1 ⟨rfl, b1⟩
  go_wp2_with fail
  have hjb := Blk.new w1 67 (jcells n g 0 (.slice none 0 0) (.slice none 0 0) 0 false)
  have hB2 := b1.alloc b1.size (.cells (jcells n g 0 (.slice none 0 0) (.slice none 0 0) 0 false) 67)
  have hH2 := H.out.more (Y := [w1.heap.size]) hB2 (fun k hk => by simp at hk; subst hk; exact ⟨b1.size, by simp⟩)
  have hgs := b1.size
  have JB := Lib.hid hjb
  have B2 := Lib.hid hB2
  have H2 := Lib.hid hH2
  unfold jcells at *
  generalize hw2 : w1.alloc (.cells #[.int .i64 (areaOf n), .int .i64 (logOf n), .pointer (some ⟨g, 0, none⟩), .int .i64 (0 : Nat), .slice none 0 0, .slice none 0 0, .int .i64 (0 : Nat), .bool false] 67) = w2 at *
  generalize hgj : w1.heap.size = gj at *
  clear hw2 hjb hB2 hH2 b1 hz hgj
  have hpf : decide ((areaOf n : Int) < (partsOf st.length : Int)) = false := by have : partsOf st.length = pn st := rfl; simp; omega
  have hpf2 : decide (areaOf n < partsOf st.length) = false := by have : partsOf st.length = pn st := rfl; simp; omega
  have hSx : Blk w2.drew gj 67 #[.int .i64 (areaOf n), .int .i64 (logOf n), .pointer (some ⟨g, 0, none⟩), .int .i64 (0 : Nat), .slice none 0 0, .slice none 0 0, .int .i64 (0 : Nat), .bool false] := JB.out
  refine any_beginL (fun w' => Blk w' gj 67 #[.int .i64 (areaOf n), .int .i64 (logOf n), .pointer (some ⟨g, 0, none⟩), .int .i64 (0 : Nat), .slice none 0 0, .slice none 0 0, .int .i64 (0 : Nat), .bool false]) 99 (by kernel_rfl) ?_
  refine S_take (i := 0) (v := .slice A st.length c) rfl rfl (by kernel_rfl) (by kernel_rfl) (by kernel_rfl) (fun _ _ _ h => h) (Or.inl ⟨by rfl, fun w _ => by kernel_rfl⟩) hSx ?_
  simp only [Act.put, List.getElem_toArray, List.getElem_cons_succ, List.getElem_cons_zero, List.setIfInBounds_toArray, List.set_cons_zero, List.set_cons_succ]
  refine S_take (i := 1) (v := .int .i64 st.length) rfl rfl (by kernel_rfl) (by kernel_rfl) (by kernel_rfl) (fun _ _ _ h => h) (Or.inl ⟨by rfl, fun w _ => by go_simp⟩) hSx ?_
  simp only [Act.put, List.getElem_toArray, List.getElem_cons_succ, List.getElem_cons_zero, List.setIfInBounds_toArray, List.set_cons_zero, List.set_cons_succ]
  refine S_take (i := 3) (v := .pointer (some ⟨gj, 0, none⟩)) rfl rfl (by kernel_rfl) (by kernel_rfl) (by kernel_rfl) (fun _ _ _ h => h) (Or.inl ⟨by rfl, fun w _ => by kernel_rfl⟩) hSx ?_
  simp only [Act.put, List.getElem_toArray, List.getElem_cons_succ, List.getElem_cons_zero, List.setIfInBounds_toArray, List.set_cons_zero, List.set_cons_succ]
  refine S_take (i := 4) (v := .pointer (some ⟨gj, 0, none⟩)) rfl rfl (by kernel_rfl) (by kernel_rfl) (by kernel_rfl) (fun _ _ _ h => h) (Or.inl ⟨by rfl, fun w _ => by go_simp⟩) hSx ?_
  simp only [Act.put, List.getElem_toArray, List.getElem_cons_succ, List.getElem_cons_zero, List.setIfInBounds_toArray, List.set_cons_zero, List.set_cons_succ]
  refine S_take (i := 5) (v := .pointer (some ⟨gj, 0, none⟩)) rfl rfl (by kernel_rfl) (by kernel_rfl) (by kernel_rfl) (fun _ _ _ h => h) (Or.inl ⟨by rfl, fun w _ => by kernel_rfl⟩) hSx ?_
  simp only [Act.put, List.getElem_toArray, List.getElem_cons_succ, List.getElem_cons_zero, List.setIfInBounds_toArray, List.set_cons_zero, List.set_cons_succ]
  refine S_take (i := 6) (v := .pointer (some ⟨gj, 0, none⟩)) rfl rfl (by kernel_rfl) (by kernel_rfl) (by kernel_rfl) (fun _ _ _ h => h) (Or.inl ⟨by rfl, fun w _ => by kernel_rfl⟩) hSx ?_
  simp only [Act.put, List.getElem_toArray, List.getElem_cons_succ, List.getElem_cons_zero, List.setIfInBounds_toArray, List.set_cons_zero, List.set_cons_succ]
  refine S_take (i := 7) (v := .int .i64 (areaOf n)) rfl rfl (by kernel_rfl) (by kernel_rfl) (by kernel_rfl) (fun _ _ _ h => h) (Or.inl ⟨by rfl, fun w hw => by have q : w.cell? ⟨_, 0, none⟩ = some (.int .i64 (areaOf n)) := hw.cell 0; go_simp⟩) hSx ?_
  simp only [Act.put, List.getElem_toArray, List.getElem_cons_succ, List.getElem_cons_zero, List.setIfInBounds_toArray, List.set_cons_zero, List.set_cons_succ]
  refine L_one (j := 2) (by kernel_rfl) rfl (by rfl) ?_
  simp only [Act.put, List.getElem_toArray, List.getElem_cons_succ, List.getElem_cons_zero, List.setIfInBounds_toArray, List.set_cons_zero, List.set_cons_succ]
  refine wp_called (by kernel_rfl) (jparts_any st.length _ (by omega)) ?_
  rintro e w' ⟨rfl, hww⟩
  subst hww
  refine ⟨_, rfl, hSx, ?_⟩
  simp only [Act.put, List.getElem_toArray, List.getElem_cons_succ, List.getElem_cons_zero, List.setIfInBounds_toArray, List.set_cons_zero, List.set_cons_succ]
  refine S_take (i := 8) (v := .bool false) rfl rfl (by kernel_rfl) (by kernel_rfl) (by kernel_rfl) (fun _ _ _ h => h) (Or.inl ⟨by rfl, fun w _ => by go_simp⟩) hSx ?_
  simp only [Act.put, List.getElem_toArray, List.getElem_cons_succ, List.getElem_cons_zero, List.setIfInBounds_toArray, List.set_cons_zero, List.set_cons_succ]
  refine L_done (by kernel_rfl) ?_
  refine NoPanic.normal ?_
  clear hSx
  obtain ⟨i0, hi0, hz0, hz1, hz2'⟩ := info_parts sec_info
  have hmk : ∀ w, (Instr.makeSlice 69 (.int .i64 2) (.int .i64 2)).run Tryd.prog w = .ok (.slice (some ⟨w.heap.size, 0, none⟩) 2 2) (w.alloc (.cells ([Sec.zero, Sec.zero].flatMap Sec.cs).toArray 90)) := by
    intro w
    have := run_make (P := Tryd.prog) w 69 90 i0 Sec.zero.v Tryd.underlying69 hi0 hz0 .i64 .i64 2 2 (by omega) (by omega) (by rw [hz2']; omega) (by omega)
    rw [hz1, show ((2 : Int).toNat) = 2 from rfl, made_zeros] at this
    exact this
  have hzr := row_zero
  clear hi0 hz0 hz1 hz2'
  generalize hZZ : ([Sec.zero, Sec.zero].flatMap Sec.cs) = ZZ at hmk
  go_wp2_with fail
  have hzl : ZZ.length = 256 := by rw [← hZZ]; simp [Sec.cs_len]
  have hrS := Reads.newN w2 ZZ 2 128 90 (0, 0) (by rw [hzl])
  have hrR := Reads.newN (w2.alloc (.cells ZZ.toArray 90)) [.int .i64 (0 : Nat), .slice (some ⟨w2.heap.size, 0, none⟩) 2 2] 1 2 71 (0, 0) rfl
  have hby : Below w2.heap.size w2 (((w2.alloc (.cells ZZ.toArray 90)).alloc (.cells #[.int .i64 (0 : Nat), .slice (some ⟨w2.heap.size, 0, none⟩) 2 2] 71)).drew) := (two_below w2 _ _).drew
  have hrS' := (hrS.alloc (by simp) (.cells #[.int .i64 (0 : Nat), .slice (some ⟨w2.heap.size, 0, none⟩) 2 2] 71)).drew
  have hysz : (((w2.alloc (.cells ZZ.toArray 90)).alloc (.cells #[.int .i64 (0 : Nat), .slice (some ⟨w2.heap.size, 0, none⟩) 2 2] 71)).drew).heap.size = w2.heap.size + 2 := by
    show ((w2.alloc _).alloc _).heap.size = _
    simp
  have hS1 : (w2.alloc (.cells ZZ.toArray 90)).heap.size = w2.heap.size + 1 := by simp
  rw [hS1] at hrR
  have hrR' := hrR.drew
  have JY := JB.out.below hby JB.out.lt
  have HY := H2.out.more (Y := [w2.heap.size + 1, w2.heap.size]) hby (fun k hk => by simp at hk; rw [hysz]; omega)
  have BY := B2.out.trans (hby.mono B2.out.size)
  have hok : (d.putRows [⟨0, some ⟨w2.heap.size, 0, none⟩, 2, [Sec.zero, Sec.zero]⟩]).2 = 0 ∧ (d.putRows [⟨0, some ⟨w2.heap.size, 0, none⟩, 2, [Sec.zero, Sec.zero]⟩]).1 = (d.putRow 0 [Sec.zero, Sec.zero]).1 := by
    simp [DM.putRows, HOK.out]
  have JY := Lib.hid JY
  have HY := Lib.hid HY
  have BY := Lib.hid BY
  have HRS := Lib.hid hrS'
  have HRR := Lib.hid hrR'
  clear hrS hrR hby hrS' hrR' hS1 JB H2 B2
  generalize hwy : ((w2.alloc (.cells ZZ.toArray 90)).alloc (.cells #[.int .i64 (0 : Nat), .slice (some ⟨w2.heap.size, 0, none⟩) 2 2] 71)).drew = wy at *
  refine (write_good HY.out _ JY.out rfl (by simp) (some ⟨w2.heap.size + 1, 0, none⟩) 1 [⟨0, some ⟨w2.heap.size, 0, none⟩, 2, [Sec.zero, Sec.zero]⟩] (fun k hk => by simp [blkOf] at hk; simp [hk]) (HRR.out.more (by rw [hysz]; omega)) (fun r hr => by
    simp only [List.mem_cons, List.not_mem_nil, or_false] at hr
    subst hr
    refine ⟨fun k hk => by simp [blkOf] at hk; simp [hk], ?_, by show 0 + 2 ≤ 1000000; omega⟩
    show Reads wy wy.heap.size 128 (some ⟨w2.heap.size, 0, none⟩) 2 ([Sec.zero, Sec.zero].flatMap Sec.cs)
    rw [hZZ]
    exact HRS.out.more (by rw [hysz]; omega)) (hf.less (by simp [stepsOf])) (by simp) hok.1).mono ?_
  rintro e w5 ⟨rfl, h5, k5⟩
  rw [hok.2] at h5
  have H5 := Lib.hid (h5.mono (Y := gj :: X) (fun k hk => by simp at hk ⊢; rcases hk with hk | hk <;> simp [hk]))
  have hk5 : Keep (gj :: X) wy w5 := Keep.mono k5 (fun k hk => by simp at hk ⊢; rcases hk with hk | hk <;> simp [hk])
  have J5 := Lib.hid (hk5.blk (by simp) JY.out)
  have hkx : ∀ k ∈ X, w5.heap[k]? = w.heap[k]? := fun k hk => (hk5.2 k (by simp [hk])).trans (BY.out.block k (HX.out k hk))
  have hsz5 : w.heap.size ≤ w5.heap.size := Nat.le_trans BY.out.size hk5.1
  have hb5 : Bytes w5 w5.heap.size A st.length st := ⟨HS.out.1.blk (fun k hk => hkx k (hAx k hk)) hsz5, HS.out.2⟩
  have hT5 : Tab w5 := fun i hi => (h5.since.cell (p := ⟨0, i, none⟩) hw0).trans (((H.out.since).cell (p := ⟨0, i, none⟩) hw0).symm.trans (HT.out i hi))
  have hfar : Far (d.putRow 0 [Sec.zero, Sec.zero]).1 (pn st + 3) := Far.putRow _ d 0 _ (by simpa using hf)
  have HKX := Lib.hid hkx
  have HB5 := Lib.hid hb5
  have HT5 := Lib.hid hT5
  clear h5 k5 hk5 hkx hb5 hT5 JY HY BY HRS HRR
  go_wp2_with fail
  refine (begin_good (vs := .slice none 0 0) (vt := .slice none 0 0) (gen0 := 0) (used := 0) H5.out J5.out (by simp) (by have := H.out.size; omega) hn 1 (by omega) A c st HB5.out hl hlc hcm HT5.out hw0 (fun _ k hk => by simp [hAx k hk]) hfar HOK2.out).mono ?_
  rintro e w6 ⟨B, cc, rfl, h6, hBn, j6, o6, k6, s6⟩
  have H6 := Lib.hid h6
  have J6 := Lib.hid j6
  have O6 := Lib.hid o6
  have K6 := Lib.hid k6
  clear h6 j6 o6 k6
  go_wp2
  go_ret2
  refine ⟨gj, B, cc, rfl, H6.out, J6.out, row_weaken O6.out hsz5, ⟨Nat.le_trans hsz5 s6, fun k hk => ?_⟩, hgs, fun hm => ?_⟩
  · rw [K6.out k (by simp [hk]) (by have := HX.out k hk; omega)]
    exact HKX.out k hk
  · have := hBn _ hm
    have := J5.out.lt
    omega
end Go.Proofs.YtpklcmocjimcpaaDoor
