/-
  The law JournalNone, walked: it returns true and changes nothing that was there. Condition: the package's table holds its sixteen numbers.
-/
import Derived.Test.YtpklcmocjimcpaaDoorZj
import Derived.Test.YtpklcmocjimcpaaDoorJtxC
namespace Go.Proofs.YtpklcmocjimcpaaDoor
open Go.RowKit Go.Shelf Go.BigFrame
set_option maxRecDepth 100000
attribute [local go_sem] Oper.semAt_some
set_option linter.unusedSimpArgs false
set_option linter.unusedVariables false
theorem jnone_results (W : World) (tmps : Array Value) (bs : Nat) (b : Bool) (h : tmps.getD 2 undef = .pointer (some ⟨bs, 0, none⟩)) (h1 : Boxed W bs 4 (.bool b)) : (results Tryd.f5 tmps).run Tryd.prog W = .ok (.bool b) W := by
  have hc := h1.cell
  have hr : Tryd.f5.results = #[.cell 2 4] := rfl
  have h' : tmps[2]?.getD undef = .pointer (some ⟨bs, 0, none⟩) := by simpa using h
  unfold results
  rw [hr]
  have hv : (loadVar 4 ⟨bs, 0, none⟩).run Tryd.prog W = .ok (.bool b) W := by simp [go_sem, hc]
  simp [h', asAddr, hv]
set_option maxRecDepth 100000 in
set_option maxHeartbeats 4000000 in
theorem jnone_in (A0 : Option Addr) (n0 c0 : Nat) (w : World) (hT : Tab w) : CallsIn Fence.wide 5 Tryd.prog 5 #[.slice A0 n0 c0] w fun e w' => e = .returned (.bool true) ∧ Below w.heap.size w w' := by
  have hro : Fence.wide.round = none := rfl
  have h1 : 1 ≤ 5 := by omega
  have hpos := hT.pos
  have HT := Lib.hid hT
  clear hT
  refine callsIn_of_wp_marks Tryd.func5 rfl trivial ?_ hro
  simp only [Tryd.ntmps5, List.size_toArray, List.length_cons, List.length_nil, Nat.reduceAdd, Nat.reduceSub, Array.replicate_succ, Array.replicate_zero, List.push_toArray, List.append_toArray, List.nil_append, List.cons_append]
  have HA := Lib.hid (fun w' (hb : Below w.heap.size w w') => jalive_any w' (tab_below HT.out hb hpos) (Nat.lt_of_lt_of_le hpos hb.size))
  have hb1 : Below w.heap.size w (w.alloc (.cells #[.bool false] 4)) := (Below.refl _ _).alloc (Nat.le_refl _) _
  have HB1 := Lib.hid hb1
  have hbx := Boxed.new w 4 (.bool false)
  have HX := Lib.hid hbx
  clear hb1 hbx
  gi_wp2_with (refine ⟨trivial, ?_⟩; gi_at_call 7; refine (callsIn_wide.2 (HA.out _ HB1.out)).mono ?_; rintro e w2 ⟨rfl, b2⟩)
  have B2 := Lib.hid (HB1.out.trans (b2.mono HB1.out.size))
  have X2 := Lib.hid (show Boxed w2 w.heap.size 4 (.bool false) from (b2.block _ (by simp)).trans HX.out)
  have hs2 := b2.size
  rw [World.size_alloc] at hs2
  clear b2
  refine ⟨trivial, ?_⟩
  refine (callsIn_wide.2 (txs_nil w2)).mono ?_
  rintro e w' ⟨rfl, rfl⟩
  gi_wp2
  have hbt := (Boxed.new w2 36 (.slice none 0 0)).cell
  have B3 := Lib.hid (B2.out.alloc B2.out.size (.cells #[.slice none 0 0] 36))
  have X3 := Lib.hid (X2.out.alloc (.cells #[.slice none 0 0] 36))
  have hs3 : (w2.alloc (.cells #[.slice none 0 0] 36)).heap.size = w2.heap.size + 1 := by simp
  generalize hgb : w2.heap.size = gb at *
  generalize w2.alloc (.cells #[.slice none 0 0] 36) = w3 at *
  refine wpIn_rangeFunc_ownH hro h1 (gf := 43) (lb := #[.pointer (some ⟨gb, 0, none⟩)]) rfl trivial (enters_of Tryd.func43 (by kernel_rfl) rfl)
    (txs_stops_nil Fence.wide 4 (fun _ => trivial) hro (by omega) gb w3 (by omega) hbt (fun _ _ => True)) (fun _ _ => trivial) (fun _ _ _ _ _ _ _ _ => trivial) (Below.refl _ _) (fun _ => rfl)
    (fun pre W => Below w.heap.size w W ∧ Boxed W w.heap.size 4 (.bool false)) (fun _ _ _ => False)
    ?own1 (fun c s W W' row h => h.elim) ⟨B3.out, X3.out⟩ (fun x a' W => True) (fun x a' => ownFrom_pure _ _) ?assign ?body ?done ?stop
  case own1 =>
    rintro s W W' row ⟨h1, h2⟩ hg hr
    exact ⟨h1.grown hg h1.size (fun k e => by have := (hr k e).1; omega), h2.kept hg (fun e => by have := (hr _ e.symm).1; omega)⟩
  case assign =>
    rintro l pre x W K hI hK
    have HK := Lib.hid hK
    have HI := Lib.hid hI
    clear hK hI
    unfold encT
    gi_wp2
    exact HK.out _ _ (KeepsFrom.refl _ _) trivial HI.out trivial
  case stop =>
    rintro D c pre W hD - h
    exact h.elim
  case body =>
    rintro l pre x a' W hlW hrl hI hA hlt
    exact absurd hlt (Nat.not_lt_zero _)
  case done =>
    rintro D ys W hD rfl ⟨hA, hB⟩ hK
    have HK := Lib.hid hK
    have HA := Lib.hid hA
    have hcl := hB.cell
    have hfz := hB.frozen
    have HB := Lib.hid hB
    clear hA hB hK
    gi_wp2_with (first
      | (refine ⟨trivial, ?_⟩; gi_at_call 12; refine (callsIn_wide.2 (append_nil _ _)).mono ?_; rintro e w' ⟨rfl, rfl⟩)
      | (refine ⟨trivial, ?_⟩; gi_at_call 13; refine (callsIn_wide.2 (checkpoint_nil _ _)).mono ?_; rintro e w' ⟨rfl, rfl⟩)
      | (refine ⟨trivial, ?_⟩; gi_at_call 14; refine (callsIn_wide.2 (is_any 13 13 _)).mono ?_; rintro e w' ⟨rfl, rfl⟩)
      | (refine ⟨trivial, ?_⟩; gi_at_call 18; refine (callsIn_wide.2 (jstate_nil _)).mono ?_; rintro e w' ⟨rfl, rfl⟩)
      | (refine ⟨trivial, ?_⟩; gi_at_call 25; refine (callsIn_wide.2 (jlen_nil _)).mono ?_; rintro e w' ⟨rfl, rfl⟩)
      | (refine ⟨trivial, ?_⟩; gi_at_call 21; refine (callsIn_wide.2 (jgen_nil _)).mono ?_; rintro e w' ⟨rfl, rfl⟩)
      | (refine ⟨trivial, ?_⟩; gi_at_call 22; refine (callsIn_wide.2 (jroom_nil _)).mono ?_; rintro e w' ⟨rfl, rfl⟩))
    have hb2 : Below w.heap.size w (W.setCell ⟨w.heap.size, 0, none⟩ (.bool true)) := HA.out.setCell (p := ⟨w.heap.size, 0, none⟩) (Nat.le_refl _) _
    have hx2 : Boxed (W.setCell ⟨w.heap.size, 0, none⟩ (.bool true)) w.heap.size 4 (.bool true) := HB.out.set (.bool true)
    have hk2 : (W.setCell ⟨w.heap.size, 0, none⟩ (.bool true)).heap[D]? = some (.deferred (some [])) := (Below.heap_setCell _ _ _ _ (by show D ≠ w.heap.size; omega)).trans HK.out
    generalize W.setCell ⟨w.heap.size, 0, none⟩ (.bool true) = W2 at *
    refine ⟨by simp, .inl ⟨_, _, rfl, run_takeDeferred hk2, ?_⟩⟩
    have hkp := grownBy_putObj' W2 D (.deferred none)
    exact ⟨_, jnone_results _ _ w.heap.size true rfl (hx2.kept hkp (by simp; omega)), rfl, hb2.grown hkp hb2.size (fun k e => by cases e; omega)⟩
theorem journalNone_walk (A0 : Option Addr) (n0 c0 : Nat) (b0 : List Nat) {w : World} (m0 : n0 ≤ c0 ∧ c0 ≤ 9223372036854775807) (o0 : Bytes w w.heap.size A0 n0 b0) (hT : Tab w) :
    Calls Tryd.prog 5 #[.slice A0 n0 c0] w fun e w' => e = .returned (.bool true) ∧ Below w.heap.size w w' :=
  callsIn_wide.1 (jnone_in A0 n0 c0 w hT)
end Go.Proofs.YtpklcmocjimcpaaDoor
