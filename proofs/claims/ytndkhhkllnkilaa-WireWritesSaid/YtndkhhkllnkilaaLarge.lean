/-
  What large answers of a list of values. No condition but the sizes that a machine sets.
-/
import Derived.Test.YtndkhhkllnkilaaVal
import Derived.Test.YtndkhhkllnkilaaBadWalk
namespace Go.Proofs.Ytndkhhkllnkilaa
open Go.RowKit
set_option linter.unusedSimpArgs false
set_option linter.unusedVariables false
theorem take_snoc_any {α : Type} {l : List α} {k : Nat} {x : α} (h : l[k]? = some x) : l.take (k + 1) = l.take k ++ [x] := by
  rw [List.take_add_one, h]; rfl
theorem large_any (A : Option Addr) (m c : Nat) (os : List ValV) (B : Nat) (w : World) (h : VCells w B A m os) (hm : m ≤ 9223372036854775807) (hk : ∀ o ∈ os, o.b.length ≤ 9223372036854775807 ∧ o.l.length ≤ 9223372036854775807) :
    Calls Try.prog 9 #[.slice A m c] w fun e w' => ∃ r, e = .returned (.bool r) ∧ Below w.heap.size w w' ∧ (r = false → m ≤ 41 ∧ ∀ o ∈ os, o.b.length ≤ 300 ∧ o.l.length ≤ 50) := by
  have hz := val_zero
  have hl := h.len
  have hK := Lib.hid hk
  have H := Lib.hid h
  clear h hk
  go_enter Try.func9, Try.ntmps9
  go_wp2
  go_loopw [7] (fun i wr => ∃ k : Nat, k ≤ m ∧ k ≤ 41 ∧ i = .int .i64 k ∧ Below w.heap.size w wr ∧ ∀ o ∈ os.take k, o.b.length ≤ 300 ∧ o.l.length ≤ 50) (fun i _ => m - (intOf i).toNat)
  case atStart => exact ⟨0, by omega, by omega, rfl, Below.refl _ _, by simp⟩
  case round =>
    obtain ⟨k, hk, hk2, rfl, hb, hall⟩ := hrel
    by_cases hlt : k < m
    · obtain ⟨ad, o, rfl, ho, hc⟩ := (show VCells wr B A m os from Reads.since H.out hb).get hlt
      have Ho := Lib.hid ho
      have Hall := Lib.hid hall
      have hos := hK.out o (List.mem_of_getElem? ho)
      have hos1 := hos.1
      have hos2 := hos.2
      clear hall ho hos
      have hu := Try.underlying31
      have hi : (Try.prog.info? 31).map (·.size) = some o.cs.length := val_size
      have B0 := Blk.new wr 31 o.cs.toArray
      have b2 : (wr.alloc (.cells o.cs.toArray 31)).cell? ⟨wr.heap.size, 2, none⟩ = some (.slice o.A o.b.length o.c) := by rw [B0.cell]; rfl
      have b3 : (wr.alloc (.cells o.cs.toArray 31)).cell? ⟨wr.heap.size, 3, none⟩ = some (.slice o.A2 o.l.length o.c2) := by rw [B0.cell]; rfl
      by_cases h40 : k ≤ 40
      · have hd1 : decide (40 < (k : Int)) = false := decide_eq_false (by omega)
        by_cases h300 : o.b.length ≤ 300
        · have hd2 : decide (300 < (o.b.length : Int)) = false := decide_eq_false (by omega)
          by_cases h50 : o.l.length ≤ 50
          · have hd3 : decide (50 < (o.l.length : Int)) = false := decide_eq_false (by omega)
            go_wp2_with (first
              | (refine wpList_load_at rfl 31 (.tmp 10) rfl _ rfl o.cs _ hc hu rfl hi ?_)
              | (refine wpList_store_newN rfl 31 (.tmp 4) (.tmp 11) rfl wr.heap.size rfl o.cs _ rfl rfl hi rfl o.one ?_))
            go_roundw
            case rel =>
              refine ⟨k + 1, by omega, by omega, by go_num, hb.alloc hb.size _, fun o' ho' => ?_⟩
              rw [take_snoc_any Ho.out] at ho'
              rcases List.mem_append.1 ho' with h' | h'
              · exact Hall.out o' h'
              · obtain rfl := List.mem_singleton.1 h'
                exact ⟨h300, h50⟩
            case measure => simp [intOf]; omega
          · have hd3 : decide (50 < (o.l.length : Int)) = true := decide_eq_true (by omega)
            go_wp2_with (first
              | (refine wpList_load_at rfl 31 (.tmp 10) rfl _ rfl o.cs _ hc hu rfl hi ?_)
              | (refine wpList_store_newN rfl 31 (.tmp 4) (.tmp 11) rfl wr.heap.size rfl o.cs _ rfl rfl hi rfl o.one ?_))
            go_ret
            exact ⟨true, rfl, hb.alloc hb.size _, by simp⟩
        · have hd2 : decide (300 < (o.b.length : Int)) = true := decide_eq_true (by omega)
          go_wp2_with (first
            | (refine wpList_load_at rfl 31 (.tmp 10) rfl _ rfl o.cs _ hc hu rfl hi ?_)
            | (refine wpList_store_newN rfl 31 (.tmp 4) (.tmp 11) rfl wr.heap.size rfl o.cs _ rfl rfl hi rfl o.one ?_))
          go_ret
          exact ⟨true, rfl, hb.alloc hb.size _, by simp⟩
      · have hd1 : decide (40 < (k : Int)) = true := decide_eq_true (by omega)
        go_wp2_with (first
          | (refine wpList_load_at rfl 31 (.tmp 10) rfl _ rfl o.cs _ hc hu rfl hi ?_)
          | (refine wpList_store_newN rfl 31 (.tmp 4) (.tmp 11) rfl wr.heap.size rfl o.cs _ rfl rfl hi rfl o.one ?_))
        go_ret
        exact ⟨true, rfl, hb.alloc hb.size _, by simp⟩
    · go_wp2
      go_ret
      exact ⟨false, rfl, hb, fun _ => ⟨by omega, fun o ho => hall o (by rw [List.take_of_length_le (by omega)]; exact ho)⟩⟩
theorem one_val (cs : List Value) (hc : cs.length = 4) (w : World) : (Instr.buildSlice 22 1 #[(0, .agg cs.toArray)]).run Try.prog w = .ok (.slice (some ⟨w.heap.size, 0, none⟩) 1 1) (w.alloc (.cells cs.toArray 31)) :=
  run_buildSlice_one (size := 4) (v := .agg cs.toArray) Try.underlying22 (by kernel_rfl) (by omega) (by omega) (by simpa [Value.cells] using hc) w
theorem wpList_one_val {ops : Array Oper} {rest : List Oper} {o : Oper} {a : Act} {w : World} {Q : Exit → Act → World → Prop} (hg : o.guard = none) (x : Operand) (ho : o.op = .buildSlice 22 1 #[(0, x)])
    (cs : List Value) (hx : a.eval x = .agg cs.toArray) (hc : cs.length = 4) (h : wpList Try.prog ops Q rest (a.put o.dst (.slice (some ⟨w.heap.size, 0, none⟩) 1 1)) (w.alloc (.cells cs.toArray 31))) : wpList Try.prog ops Q (o :: rest) a w := by
  refine wpList_plain hg fun _ hK => wp_ran (v := .slice (some ⟨w.heap.size, 0, none⟩) 1 1) (w' := w.alloc (.cells cs.toArray 31)) ?_ (hK _ _ h)
  simp [execOp, ho, hx, one_val cs hc, Result.andThen]
set_option maxHeartbeats 1000000 in
theorem wireNone_walk (v : ValV) {w : World} (hv : v.At w w.heap.size ∧ v.b.length ≤ 9223372036854775807 ∧ v.l.length ≤ 9223372036854775807) :
    Calls Try.prog 6 #[.agg v.cs.toArray] w fun e w' => e = .returned (.bool true) ∧ Below w.heap.size w w' := by
  have HV := Lib.hid hv
  have hz := ref_zero
  have hu := Try.underlying31
  have hi : (Try.prog.info? 31).map (·.size) = some v.cs.length := val_size
  clear hv
  have K0 := Lib.hid (Blk.new w 31 v.cs.toArray)
  have b0 := Lib.hid (below_alloc w (.cells v.cs.toArray 31))
  go_enter Try.func6, Try.ntmps6
  go_wp2_with fail
  generalize w.alloc (.cells v.cs.toArray 31) = w0 at *
  have hgv0 : w.heap.size ≤ w0.heap.size := b0.out.size
  refine (alive_any _).mono ?_
  rintro e w1 ⟨rfl, b1⟩
  have K1 := Lib.hid (K0.out.below b1 K0.out.lt)
  have B1 := Lib.hid (b0.out.trans (b1.mono hgv0))
  have hrg : w1.rangeAt w.heap.size 0 v.cs := K1.out.range
  have B2 := Lib.hid (B1.out.alloc B1.out.size (.cells v.cs.toArray 31))
  have K2 := Lib.hid (K1.out.alloc (.cells v.cs.toArray 31))
  have VC : VCells (w1.alloc (.cells v.cs.toArray 31)) (w1.heap.size + 1) (some ⟨w1.heap.size, 0, none⟩) 1 [v] := by
    have := Reads.newN w1 v.cs 1 4 31 (0, 0) rfl
    simpa [VCells] using this
  clear b1 b0 K0
  go_wp2_with (first
    | (refine wpList_load_mid rfl 31 (.tmp 1) rfl w.heap.size 0 rfl v.cs _ hrg hu rfl hi ?_)
    | (refine wpList_one_val rfl (.tmp 8) rfl v.cs rfl rfl ?_))
  refine (large_any (some ⟨w1.heap.size, 0, none⟩) 1 1 [v] _ _ VC (by omega) (by simpa using HV.out.2)).mono ?_
  rintro e w3 ⟨r, rfl, b3, hr⟩
  have B3 := Lib.hid (B2.out.trans (b3.mono B2.out.size))
  have K3 := Lib.hid (K2.out.below b3 K2.out.lt)
  clear b3 B1 B2 K1 K2 VC hrg
  cases r with
  | true =>
    go_wp2
    go_ret
    exact ⟨rfl, B3.out⟩
  | false =>
    obtain ⟨-, hsz⟩ := hr rfl
    have hsz' := hsz v (by simp)
    clear hr hsz
    have hrg : w3.rangeAt w.heap.size 0 v.cs := K3.out.range
    have hv3 : v.At w3 w.heap.size := HV.out.1.since B3.out
    go_wp2_with (refine wpList_load_mid rfl 31 (.tmp 1) rfl w.heap.size 0 rfl v.cs _ hrg hu rfl hi ?_)
    have hsv : v.size = 8 + v.b.length + 8 * v.l.length := rfl
    refine (write_any w3 w.heap.size [] none [] v w.heap.size (.inl ⟨rfl, rfl, rfl⟩) hv3 (fun a _ h => by cases h) B3.out.size (by simp; omega)).mono ?_
    rintro e w4 ⟨rv, rfl, -, ⟨F4, h4, o4, -⟩, -⟩
    have hF4 : F4 = [] := by
      rcases h4 with ⟨_, h, _⟩ | ⟨g, h, _⟩
      · exact h
      · cases h
    subst hF4
    have b4 := o4.nil
    have B4 := Lib.hid (B3.out.trans (b4.mono B3.out.size))
    have K4 := Lib.hid (K3.out.below b4 K3.out.lt)
    have M5 : Mr (w4.alloc (.cells #[.slice none 0 0, .bool true] 42)) w.heap.size w4.heap.size RD.spoilt := ⟨none, 0, Blk.new _ _ _, ⟨Reads.none_, fun b hb => by cases hb⟩, Nat.le_refl _, by simp [maxLen], B4.out.size, RD.spoilt_good⟩
    have T5 : Both (w4.alloc (.cells #[.slice none 0 0, .bool true] 42)) w.heap.size [] none RD.spoilt w4.heap.size RD.spoilt := ⟨.inl ⟨rfl, rfl, rfl⟩, M5, fun hm => by cases hm⟩
    have HT := Lib.hid T5
    have B5 := Lib.hid (B4.out.alloc B4.out.size (.cells #[.slice none 0 0, .bool true] 42))
    have K5 := Lib.hid (K4.out.alloc (.cells #[.slice none 0 0, .bool true] 42))
    clear h4 o4 b4 M5 T5 B4 K4 K3 B3 hv3 hrg
    go_wp2_with fail
    generalize w4.alloc (.cells #[.slice none 0 0, .bool true] 42) = w5 at *
    generalize w4.heap.size = gm at *
    refine (out_any w5 w.heap.size [] none [] (.inl ⟨rfl, rfl, rfl⟩) (by simp)).mono ?_
    rintro e w6 ⟨ov, rfl, ho, b6⟩
    obtain ⟨A6, c6, rfl, -, -, -⟩ := ho.form
    have HT6 := Lib.hid (HT.out.below b6)
    have B6 := Lib.hid (B5.out.trans (b6.mono B5.out.size))
    have K6 := K5.out.below b6 K5.out.lt
    have q0 : w6.cell? ⟨w.heap.size, 0, none⟩ = some (.int .i64 v.kind) := by rw [K6.cell]; rfl
    clear ho b6 K6 HT B5 K5
    go_wp2_with fail
    refine (read_any w6 w.heap.size [] none RD.spoilt gm RD.spoilt v.kind HT6.out B6.out.size (by simp [RD.spoilt]) (by simp [RD.spoilt])).mono ?_
    rintro e w7 ⟨b, rfl, hbe, t7⟩
    obtain rfl := hbe rfl
    rw [spoilt_to] at t7
    obtain ⟨F7, t7, b7⟩ := BTo.go HT6.out B6.out B6.out.size t7
    have HU := Lib.hid (And.intro t7 b7)
    clear t7 b7 q0
    go_wp2_with fail
    refine (left_any w7 w.heap.size F7 _ _ HU.out.1.rd).mono ?_
    rintro e w8 ⟨he, hw⟩
    subst he
    subst hw
    go_wp2_with fail
    refine (rend_any w7 w.heap.size F7 _ _ HU.out.1.rd).mono ?_
    rintro e w8 ⟨he, hw⟩
    subst he
    subst hw
    simp only [RD.spoilt, Bool.true_or, if_true]
    go_wp2_with fail
    refine (is_any 2 2 w7).mono ?_
    rintro e w8 ⟨he, hw⟩
    subst he
    subst hw
    go_wp2
    go_ret
    exact ⟨rfl, HU.out.2⟩
end Go.Proofs.Ytndkhhkllnkilaa
