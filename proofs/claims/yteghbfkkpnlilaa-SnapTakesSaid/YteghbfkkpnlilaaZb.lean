/-
  Which objects the program finds good, and what it says they are at a snapshot. Conditions: the object reads as it is said to.
-/
import Derived.Test.YteghbfkkpnlilaaZa
import Derived.Laws.CopyOwn
import Derived.Laws.MakeOwn
import Derived.Lib.SliceRun
import Derived.RangeFuncNested
import Derived.RangeFuncBound
import Derived.RangeFuncCalls
import Derived.RangeFuncLeaves
import Derived.Shelf.Abstract
import Derived.Shelf.RegionOpen
import Derived.WalkKit
import Derived.OwnWalkIn
import Derived.TacticsInMore
import Derived.LoopNIn
import Derived.LoopIn

namespace Go.Proofs.Yteghbfkkpnlilaa
open Go.RowKit
set_option linter.unusedSimpArgs false
set_option linter.unusedVariables false
set_option maxRecDepth 100000
theorem rise_at : ∀ {L : List Int} {l : Int} {i : Nat} {s : Int}, riseB l L = true → L[i]? = some s → topI l (L.take i) < s
  | [], l, i, s, _, h => by simp at h
  | a :: L, l, 0, s, h, hs => by
    rw [riseB, Bool.and_eq_true, decide_eq_true_iff] at h
    simp at hs
    subst hs
    exact h.1
  | a :: L, l, i + 1, s, h, hs => by
    rw [riseB, Bool.and_eq_true] at h
    rw [List.take_succ_cons, topI]
    exact rise_at h.2 (by simpa using hs)
theorem rise_mid {X Y sn : List Int} {q : Nat} {s l : Int} (h : riseB l (X ++ (sn ++ Y)) = true) (hq : sn[q]? = some s) : topI (topI l X) (sn.take q) < s := by
  rw [riseB_app, Bool.and_eq_true, riseB_app, Bool.and_eq_true] at h
  exact rise_at h.2.1 hq
theorem take_snocI {α : Type} {l : List α} {k : Nat} {b : α} (h : l[k]? = some b) : l.take (k + 1) = l.take k ++ [b] := by
  rw [List.take_add_one, h]; rfl
theorem rise_step {l : Int} {L : List Int} {q : Nat} {s : Int} (h : riseB l (L.take q) = true) (hq : L[q]? = some s) (hs : topI l (L.take q) < s) : riseB l (L.take (q + 1)) = true ∧ topI l (L.take (q + 1)) = s := by
  rw [take_snocI hq, riseB_app, topI_app]
  simp [h, riseB, topI, hs]
theorem snAll_at {cl : List CA} {k : Nat} {c : CA} (hk : cl[k]? = some c) : snAll (cl.map CA.v) = snAll ((cl.take k).map CA.v) ++ (c.sn ++ snAll ((cl.drop (k + 1)).map CA.v)) := by
  have hl := (List.getElem?_eq_some_iff.1 hk).1
  have h1 : cl = cl.take k ++ (c :: cl.drop (k + 1)) := by
    have h2 := List.take_append_drop k cl
    rw [List.drop_eq_getElem_cons hl] at h2
    have h3 : cl[k] = c := (List.getElem?_eq_some_iff.1 hk).2
    rw [h3] at h2
    exact h2.symm
  conv => lhs; rw [h1]
  simp [snAll, CA.v]
theorem snAll_succ {cl : List CA} {k : Nat} {c : CA} (hk : cl[k]? = some c) : snAll ((cl.take (k + 1)).map CA.v) = snAll ((cl.take k).map CA.v) ++ c.sn := by
  rw [take_snocI hk]
  simp [snAll, CA.v]
def GoodTo (w : World) (o : OV) (e : Ending) (w' : World) : Prop := ∃ b : Bool, e = .returned (.bool b) ∧ (b = true ↔ Good o) ∧ Below w.heap.size w w'
theorem GoodTo.no {w w' : World} {o : OV} (h : ¬ Good o) (hb : Below w.heap.size w w') : GoodTo w o (.returned (.bool false)) w' := ⟨false, rfl, ⟨fun h => (by cases h), fun g => absurd g h⟩, hb⟩
set_option maxHeartbeats 4000000 in
theorem sgood_any {w : World} (o : OA) (h : o.R w) : Calls Try.prog 25 #[.agg o.cs] w (GoodTo w o.v) := by
  obtain ⟨th, dt, D, cd, sq, C, cc, cl⟩ := o
  have H := Lib.hid h
  have hq1 := h.q1
  have hq2 := h.q2
  have hd1 := h.d1
  have hc1 := h.c1
  have HB0 : Hid (∀ ob, Below w.heap.size w (w.alloc ob)) := Lib.hid fun ob => below_alloc w ob
  clear h
  dsimp only at hq1 hq2 hd1 hc1
  unfold OA.cs
  dsimp only
  obtain ⟨nd, hnd⟩ : ∃ nd, nd = dt.length := ⟨_, rfl⟩
  have HND := Lib.hid hnd
  rw [← hnd] at hd1 ⊢
  clear hnd
  by_cases n1 : sq < 0
  · have HN : Hid (¬ Good (OA.v ⟨th, dt, D, cd, sq, C, cc, cl⟩)) := Lib.hid fun g => by have := g.sq; simp only [OA.v] at this; omega
    have e1 : decide (sq < 0) = true := decide_eq_true n1
    go_enter Try.func25, Try.ntmps25
    go_wp2
    go_ret
    exact GoodTo.no HN.out (HB0.out _)
  have e1 : decide (sq < 0) = false := decide_eq_false n1
  by_cases n2 : (256 : Int) < (nd : Int)
  · have HN : Hid (¬ Good (OA.v ⟨th, dt, D, cd, sq, C, cc, cl⟩)) := Lib.hid fun g => by have := g.dt; simp only [OA.v] at this; rw [← HND.out] at this; omega
    have e2 : decide ((256 : Int) < (nd : Int)) = true := decide_eq_true n2
    go_enter Try.func25, Try.ntmps25
    go_wp2
    go_ret
    exact GoodTo.no HN.out (HB0.out _)
  have e2 : decide ((256 : Int) < (nd : Int)) = false := decide_eq_false n2
  by_cases n3 : th = false ∧ (0 : Int) < (nd : Int)
  · have HN : Hid (¬ Good (OA.v ⟨th, dt, D, cd, sq, C, cc, cl⟩)) := Lib.hid fun g => by have := g.th n3.1; simp only [OA.v] at this; have h2 := HND.out; rw [this] at h2; simp at h2; omega
    obtain ⟨rfl, n3⟩ := n3
    have e3 : decide ((0 : Int) < (nd : Int)) = true := decide_eq_true n3
    go_enter Try.func25, Try.ntmps25
    go_wp2
    go_ret
    exact GoodTo.no HN.out (HB0.out _)
  by_cases n4 : (16 : Int) < (cl.length : Int)
  · have HN : Hid (¬ Good (OA.v ⟨th, dt, D, cd, sq, C, cc, cl⟩)) := Lib.hid fun g => by have := g.cn; simp only [OA.v, OA.vs_len] at this; omega
    have e4 : decide ((16 : Int) < (cl.length : Int)) = true := decide_eq_true n4
    cases th with
    | true =>
      go_enter Try.func25, Try.ntmps25
      go_wp2
      go_ret
      exact GoodTo.no HN.out (HB0.out _)
    | false =>
      have e3 : decide ((0 : Int) < (nd : Int)) = false := decide_eq_false (fun h => n3 ⟨rfl, h⟩)
      have e3n : decide (0 < nd) = false := decide_eq_false (fun h => n3 ⟨rfl, by omega⟩)
      have e3z : nd = 0 := by rcases Nat.eq_zero_or_pos nd with h | h; exact h; exact absurd ⟨rfl, by omega⟩ n3
      clear n3
      go_enter Try.func25, Try.ntmps25
      go_wp2
      go_ret
      exact GoodTo.no HN.out (HB0.out _)
  have e4 : decide ((16 : Int) < (cl.length : Int)) = false := decide_eq_false n4
  have HG : Hid (0 ≤ sq ∧ dt.length ≤ 256 ∧ (th = false → dt = []) ∧ cl.length ≤ 16) := Lib.hid ⟨by omega, by rw [← HND.out]; omega, fun ht => (by
    refine List.eq_nil_of_length_eq_zero ?_
    rw [← HND.out]
    rcases Nat.eq_zero_or_pos nd with h | h
    · exact h
    · exact absurd ⟨ht, by omega⟩ n3), by omega⟩
  have e3 : th = true ∨ (th = false ∧ decide ((0 : Int) < (nd : Int)) = false ∧ decide (0 < nd) = false ∧ nd = 0) := by
    cases th with
    | true => exact .inl rfl
    | false =>
      have e3z : nd = 0 := by rcases Nat.eq_zero_or_pos nd with h | h; exact h; exact absurd ⟨rfl, by omega⟩ n3
      exact .inr ⟨rfl, decide_eq_false (by omega), decide_eq_false (by omega), e3z⟩
  clear n3 n1 n2 n4
  rcases e3 with rfl | ⟨rfl, e3, e3n, e3z⟩
  all_goals
    obtain ⟨BK, hBK⟩ : ∃ BK : World → Prop, BK = fun wr => Below w.heap.size w wr ∧ wr.cell? ⟨w.heap.size, 2, none⟩ = some (.int .i64 sq) ∧ w.heap.size < wr.heap.size := ⟨_, rfl⟩
    have HBK := Lib.hid hBK
    have HB1 : ∀ ob n, BK (w.alloc (.cells #[ob, .slice D n cd, .int .i64 sq, .slice C cl.length cc] 36)) := fun ob n => by
      rw [hBK]
      exact ⟨below_alloc w _, (Blk.new w 36 #[ob, .slice D n cd, .int .i64 sq, .slice C cl.length cc]).cell 2, by simp⟩
    have HBA : Hid (∀ wr ob, BK wr → BK (wr.alloc ob)) := Lib.hid fun wr ob h => by
      rw [hBK] at h ⊢
      exact ⟨h.1.alloc h.1.size _, (World.cell?_alloc_lt wr ob _ h.2.2).trans h.2.1, by rw [World.size_alloc]; omega⟩
    have HBS : Hid (∀ wr, BK wr → Below w.heap.size w wr ∧ wr.cell? ⟨w.heap.size, 2, none⟩ = some (.int .i64 sq)) := Lib.hid fun wr h => by
      rw [hBK] at h
      exact ⟨h.1, h.2.1⟩
    have HB2 := Lib.hid HB1
    clear hBK HB1
    go_enter Try.func25, Try.ntmps25
    go_wp2
    go_loopw [3, 37] (fun l i wr => ∃ k : Nat, k ≤ cl.length ∧ i = .int .i64 k ∧ l = .int .i64 (topI 0 (snAll ((cl.take k).map CA.v))) ∧ riseB 0 (snAll ((cl.take k).map CA.v)) = true ∧ (∀ c ∈ cl.take k, ClG c.v) ∧ BK wr) (fun _ i _ => cl.length - (intOf i).toNat)
    case atStart => exact ⟨0, by omega, rfl, rfl, rfl, fun c hc => by simp at hc, HB2.out _ _⟩
    case round =>
      obtain ⟨k, hk, rfl, rfl, hr, hcg, hb⟩ := hrel
      have HI := Lib.hid (And.intro hr (And.intro hcg hb))
      obtain ⟨T0, hT0⟩ : ∃ T0, T0 = topI 0 (snAll ((cl.take k).map CA.v)) := ⟨_, rfl⟩
      have HT0 := Lib.hid hT0
      rw [← hT0]
      clear hr hcg hb hT0
      obtain ⟨wo, hwo⟩ : ∃ wo, wo = wr := ⟨_, rfl⟩
      subst hwo
      by_cases hlt : k < cl.length
      · have hwk : IntKind.i64.wrap ((k : Int) + 1) = (k : Int) + 1 := by rw [IntKind.wrap_i64]; omega
        obtain ⟨c, hcl⟩ : ∃ c, cl[k]? = some c := ⟨_, List.getElem?_eq_getElem hlt⟩
        have hRr := H.out.since (HBS.out _ HI.out.2.2).1
        obtain ⟨ad, rfl, hl, hc⟩ := hRr.get hcl
        have hok := hRr.cl c (List.mem_of_getElem? hcl)
        have HCL := Lib.hid hcl
        have HOK := Lib.hid hok
        have hs1 := hok.s1
        have hs2 := hok.d1
        have hx1 := hok.s2
        have hx2 := hok.d2
        clear hRr hok hcl
        by_cases m1 : (c.sn.length : Int) = 0
        · have f1 : ((c.sn.length : Int) == 0) = true := beq_iff_eq.2 m1
          have f1' : decide ((c.sn.length : Int) = 0) = true := decide_eq_true m1
          have HN : Hid (∀ tx, ¬ Good (OA.v ⟨tx, dt, D, cd, sq, some ad, cc, cl⟩)) := Lib.hid fun tx g => (g.cl c.v (List.mem_map.2 ⟨c, List.mem_of_getElem? HCL.out, rfl⟩)).ne (List.eq_nil_of_length_eq_zero (by simp only [CA.v]; omega))
          go_wp2_with (have _h := hc; refine wpList_load_scl rfl (.tmp 39) rfl _ rfl c hc ?_; clear _h hc)
          go_ret
          exact GoodTo.no (HN.out _) (HBS.out _ (HBA.out _ _ HI.out.2.2)).1
        have f1 : ((c.sn.length : Int) == 0) = false := beq_eq_false_iff_ne.2 m1
        have f1' : decide ((c.sn.length : Int) = 0) = false := decide_eq_false m1
        by_cases m2 : (256 : Int) < (c.dt.length : Int)
        · have f2 : decide ((256 : Int) < (c.dt.length : Int)) = true := decide_eq_true m2
          have HN : Hid (∀ tx, ¬ Good (OA.v ⟨tx, dt, D, cd, sq, some ad, cc, cl⟩)) := Lib.hid fun tx g => by have := (g.cl c.v (List.mem_map.2 ⟨c, List.mem_of_getElem? HCL.out, rfl⟩)).dt; simp only [CA.v] at this; omega
          go_wp2_with (have _h := hc; refine wpList_load_scl rfl (.tmp 39) rfl _ rfl c hc ?_; clear _h hc)
          go_ret
          exact GoodTo.no (HN.out _) (HBS.out _ (HBA.out _ _ HI.out.2.2)).1
        have f2 : decide ((256 : Int) < (c.dt.length : Int)) = false := decide_eq_false m2
        have HCG : Hid (ClG c.v) := Lib.hid ⟨fun e => m1 (by simp only [CA.v] at e; rw [e]; rfl), by simp only [CA.v]; omega⟩
        clear m1 m2
        go_wp2_with (have _h := hc; refine wpList_load_scl rfl (.tmp 39) rfl _ rfl c hc ?_; clear _h hc)
        go_loopw [3, 54] (fun l i wr => ∃ q : Nat, q ≤ c.sn.length ∧ i = .int .i64 q ∧ l = .int .i64 (topI T0 (c.sn.take q)) ∧ riseB T0 (c.sn.take q) = true ∧ BK wr) (fun _ i _ => c.sn.length - (intOf i).toNat)
        case atStart => exact ⟨0, by omega, rfl, rfl, rfl, HBA.out _ _ HI.out.2.2⟩
        case round =>
          obtain ⟨q, hq, rfl, rfl, hr, hb⟩ := hrel
          have HJ := Lib.hid (And.intro hr hb)
          obtain ⟨T1, hT1⟩ : ∃ T1, T1 = topI T0 (c.sn.take q) := ⟨_, rfl⟩
          have HT1 := Lib.hid hT1
          rw [← hT1]
          clear hr hb hT1
          by_cases hlq : q < c.sn.length
          · have hwq : IntKind.i64.wrap ((q : Int) + 1) = (q : Int) + 1 := by rw [IntKind.wrap_i64]; omega
            obtain ⟨a2, x, hA2, hx, hcx⟩ := (((H.out.since (HBS.out _ HJ.out.2).1).cl c (List.mem_of_getElem? HCL.out)).sn).at_ hlq
            have HX := Lib.hid hx
            clear hx
            generalize c.S = cS at *
            subst hA2
            by_cases hle : x ≤ T1
            · have g1 : decide (x ≤ T1) = true := decide_eq_true hle
              have HN : Hid (∀ tx, ¬ Good (OA.v ⟨tx, dt, D, cd, sq, some ad, cc, cl⟩)) := Lib.hid fun tx g => by
                have h1 := ((good_iff _).1 g).2.2.1
                simp only [OA.v, OA.vs] at h1
                rw [snAll_at HCL.out] at h1
                have h2 := rise_mid h1 HX.out
                rw [← HT0.out, ← HT1.out] at h2
                omega
              go_wp2
              go_ret
              exact GoodTo.no (HN.out _) (HBS.out _ HJ.out.2).1
            · have g1 : decide (x ≤ T1) = false := decide_eq_false hle
              go_wp2
              go_roundw
              case rel =>
                have h3 := rise_step HJ.out.1 HX.out (by rw [← HT1.out]; omega)
                exact ⟨q + 1, by omega, by go_num, by rw [h3.2], h3.1, HJ.out.2⟩
              case measure => simp [intOf]; omega
          · obtain rfl : q = c.sn.length := by omega
            go_wp2
            go_roundw
            case rel =>
              have h4 := HJ.out.1
              rw [List.take_of_length_le (Nat.le_refl _)] at h4
              have h5 := HT1.out
              rw [List.take_of_length_le (Nat.le_refl _)] at h5
              refine ⟨k + 1, by omega, by go_num, ?_, ?_, fun c' hc' => ?_, HJ.out.2⟩
              · rw [snAll_succ HCL.out, topI_app, ← HT0.out, h5]
              · rw [snAll_succ HCL.out, riseB_app, ← HT0.out, h4, HI.out.1]
                rfl
              · rw [take_snocI HCL.out] at hc'
                rcases List.mem_append.1 hc' with h | h
                · exact HI.out.2.1 c' h
                · simp at h
                  subst h
                  exact HCG.out
            case measure => simp [intOf]; omega
      · obtain rfl : k = cl.length := by omega
        have hc2 := (HBS.out _ HI.out.2.2).2
        go_wp2
        go_ret
        have h4 := HI.out.1
        have h5 := HT0.out
        have h6 := HI.out.2.1
        rw [List.take_of_length_le (Nat.le_refl _)] at h4 h5 h6
        refine ⟨_, rfl, ?_, (HBS.out _ HI.out.2.2).1⟩
        rw [decide_eq_true_iff, good_iff]
        simp only [OA.v, OA.vs]
        rw [← h5]
        refine ⟨fun h => ⟨⟨HG.out.1, HG.out.2.1, HG.out.2.2.1, by simpa using HG.out.2.2.2⟩, fun x hx => ?_, h4, h⟩, fun h => h.2.2.2⟩
        obtain ⟨c', hc', rfl⟩ := List.mem_map.1 hx
        exact h6 c' hc'
/-! ### a number among numbers -/
def IndexTo (w : World) (l : List Int) (x : Int) (e : Ending) (w' : World) : Prop := (∃ v : Int, e = .returned (.int .i64 v) ∧ ((x ∈ l ∧ 0 ≤ v) ∨ (x ∉ l ∧ v = -1))) ∧ w = w'
set_option maxHeartbeats 2000000 in
theorem index_any {w : World} {B n c : Nat} {A : Option Addr} {l : List Int} (x : Int) (h : Ints w B A n l) (hn : n ≤ 9223372036854775807) :
    Calls Try.prog 83 #[.slice A n c, .int .i64 x] w (IndexTo w l x) := by
  have H := Lib.hid h
  have hln := h.len
  have HLN := Lib.hid hln
  clear h hln
  go_enter Try.func83, Try.ntmps83
  go_wp2
  go_loopw [8] (fun i wr => ∃ k : Nat, k ≤ n ∧ i = .int .i64 k ∧ x ∉ l.take k ∧ wr = w) (fun i _ => n - (intOf i).toNat)
  case atStart => exact ⟨0, by omega, rfl, by simp, rfl⟩
  case round =>
    obtain ⟨k, hk, rfl, hx, rfl⟩ := hrel
    have HX := Lib.hid hx
    clear hx
    by_cases hlt : k < n
    · have hwk : IntKind.i64.wrap ((k : Int) + 1) = (k : Int) + 1 := by rw [IntKind.wrap_i64]; omega
      obtain ⟨ad, y, rfl, hy, hc⟩ := H.out.at_ hlt
      have HY := Lib.hid hy
      clear hy
      by_cases he : x = y
      · have hb : (x == y) = true := beq_iff_eq.2 he
        go_wp2
        go_ret
        exact ⟨⟨_, rfl, .inl ⟨by rw [he]; exact List.mem_of_getElem? HY.out, by omega⟩⟩, rfl⟩
      · have hb : (x == y) = false := beq_eq_false_iff_ne.2 he
        go_wp2
        go_roundw
        case rel =>
          refine ⟨k + 1, by omega, by go_num, ?_, by first | rfl | trivial⟩
          rw [take_snocI HY.out]
          intro hm
          rcases List.mem_append.1 hm with h | h
          · exact HX.out h
          · simp at h; exact he h
        case measure => simp [intOf]; omega
    · obtain rfl : k = n := by omega
      go_wp2
      go_ret
      refine ⟨⟨_, rfl, .inr ⟨?_, rfl⟩⟩, rfl⟩
      have := HX.out
      rwa [List.take_of_length_le (by rw [HLN.out]; omega)] at this
def ContTo (w : World) (l : List Int) (x : Int) (e : Ending) (w' : World) : Prop := e = .returned (.bool (l.contains x)) ∧ w = w'
theorem contains_any {w : World} {B n c : Nat} {A : Option Addr} {l : List Int} (x : Int) (h : Ints w B A n l) (hn : n ≤ 9223372036854775807) :
    Calls Try.prog 42 #[.slice A n c, .int .i64 x] w (ContTo w l x) := by
  have H := Lib.hid (index_any (c := c) x h hn)
  clear h
  go_enter Try.func42, Try.ntmps42
  go_wp2_with fail
  refine H.out.mono ?_
  rintro e w' ⟨⟨v, rfl, hv⟩, rfl⟩
  have hd : decide ((0 : Int) ≤ v) = l.contains x := by
    rw [Bool.eq_iff_iff, decide_eq_true_iff, List.contains_iff_mem]
    rcases hv with ⟨h1, h2⟩ | ⟨h1, h2⟩
    · exact ⟨fun _ => h1, fun _ => h2⟩
    · exact ⟨fun h => by omega, fun h => absurd h h1⟩
  have HD := Lib.hid hd
  clear hv H hd
  go_wp2
  go_ret
  exact ⟨by show Ending.returned (.bool (decide (0 ≤ v))) = _; rw [HD.out], rfl⟩
end Go.Proofs.Yteghbfkkpnlilaa

/-
  What the program says an object is at a snapshot. Conditions: the object reads as it is said to, and is small.
-/
namespace Go.Proofs.Yteghbfkkpnlilaa
open Go.RowKit
set_option linter.unusedSimpArgs false
set_option linter.unusedVariables false
set_option maxRecDepth 100000
structure Box1 (w : World) (t : TypeId) (cs : Array Value) (wr : World) : Prop where
  bel : Below w.heap.size w wr
  blk : Blk wr w.heap.size t cs
section
variable {w wr wr' : World} {t : TypeId} {cs : Array Value}
theorem Box1.new (w : World) (t : TypeId) (cs : Array Value) : Box1 w t cs (w.alloc (.cells cs t)) := ⟨below_alloc w _, Blk.new w t cs⟩
theorem Box1.next (h : Box1 w t cs wr) (hb : Below wr.heap.size wr wr') : Box1 w t cs wr' := ⟨h.bel.trans (hb.mono h.bel.size), h.blk.of (hb.block _ h.blk.lt)⟩
end
theorem atC_at {cl : List CA} {k : Nat} {c : CA} {s : Int} (hk : cl[k]? = some c) (h0 : s ∉ snAll ((cl.take k).map CA.v)) (hs : s ∈ c.sn) : atC (cl.map CA.v) s = some c.dt := by
  have hl := (List.getElem?_eq_some_iff.1 hk).1
  have h1 : cl = cl.take k ++ (c :: cl.drop (k + 1)) := by
    have h2 := List.take_append_drop k cl
    rw [List.drop_eq_getElem_cons hl] at h2
    have h3 : cl[k] = c := (List.getElem?_eq_some_iff.1 hk).2
    rw [h3] at h2
    exact h2.symm
  rw [h1, List.map_append, atC_app, atC_none.2 h0, List.map_cons]
  simp only [atC]
  rw [List.find?_cons_of_pos (by simpa [CA.v] using hs)]
  rfl
theorem headAt_yes {o : OV} {s : Int} (h : o.th = true ∧ ¬ (0 < s ∧ s ≤ o.sq)) : headAt o s = some o.dt := if_pos h
theorem headAt_no {o : OV} {s : Int} (h : ¬ (o.th = true ∧ ¬ (0 < s ∧ s ≤ o.sq))) : headAt o s = none := if_neg h
def AtTo (w : World) (o : OV) (s : Int) (e : Ending) (w' : World) : Prop := Below w.heap.size w w' ∧
  ((∃ d v, Good o ∧ 0 ≤ s ∧ atO o s = some d ∧ e = .returned (.tuple #[v, .bool true]) ∧ Own w' w.heap.size v d.length d ∧ ∀ b ∈ d, b < 256) ∨
   ((Good o → 0 ≤ s → atO o s = none) ∧ e = .returned (.tuple #[.slice none 0 0, .bool false])))
theorem AtTo.no {w w' : World} {o : OV} {s : Int} (h : Good o → 0 ≤ s → atO o s = none) (hb : Below w.heap.size w w') : AtTo w o s (.returned (.tuple #[.slice none 0 0, .bool false])) w' := ⟨hb, .inr ⟨h, rfl⟩⟩
set_option maxHeartbeats 4000000 in
theorem sat_any {w : World} (o : OA) (s : Int) (h : o.R w) (hS : o.Sm) : Calls Try.prog 23 #[.agg o.cs, .int .i64 s] w (AtTo w o.v s) := by
  have H := Lib.hid h
  have HSM := Lib.hid hS
  have hq1 := h.q1
  have hq2 := h.q2
  have hd1 := h.d1
  have hc1 := h.c1
  have HB := Lib.hid (Box1.new w 36 o.cs)
  have HGD := Lib.hid (sgood_any o (h.since (HB.out.bel)))
  have hcs : o.cs = #[.bool o.th, .slice o.D o.dt.length o.cd, .int .i64 o.sq, .slice o.C o.cl.length o.cc] := rfl
  clear h hS
  rw [hcs] at HB HGD
  rw [hcs]
  clear hcs
  obtain ⟨th, dt, D, cd, sq, C, cc, cl⟩ := o
  dsimp only at hq1 hq2 hd1 hc1 HB HGD ⊢
  obtain ⟨ov, hov⟩ : ∃ ov, ov = OA.v ⟨th, dt, D, cd, sq, C, cc, cl⟩ := ⟨_, rfl⟩
  rw [← hov] at HGD ⊢
  have HOV := Lib.hid hov
  clear hov
  go_enter Try.func23, Try.ntmps23
  go_wp2_with fail
  refine HGD.out.mono ?_
  rintro e w1 ⟨b, rfl, hg, hb1⟩
  have HB1 := Lib.hid (HB.out.next hb1)
  have HG := Lib.hid hg
  clear hb1 hg HGD HB
  cases b with
  | false =>
    have HN : Hid (AtTo w ov s (.returned (.tuple #[.slice none 0 0, .bool false])) w1) := Lib.hid (AtTo.no (fun g => by have := HG.out.2 g; cases this) HB1.out.bel)
    go_wp2
    go_ret2
    exact HN.out
  | true =>
  have HGO := Lib.hid (HG.out.1 rfl)
  clear HG
  by_cases hneg : s < 0
  · have e1 : decide (s < 0) = true := decide_eq_true hneg
    have HN : Hid (AtTo w ov s (.returned (.tuple #[.slice none 0 0, .bool false])) w1) := Lib.hid (AtTo.no (fun _ h => by omega) HB1.out.bel)
    go_wp2
    go_ret2
    exact HN.out
  have e1 : decide (s < 0) = false := decide_eq_false hneg
  have q0 : w1.cell? ⟨w.heap.size, 0, none⟩ = some (.bool th) := HB1.out.blk.cell 0
  have q1 : w1.cell? ⟨w.heap.size, 1, none⟩ = some (.slice D dt.length cd) := HB1.out.blk.cell 1
  have q2 : w1.cell? ⟨w.heap.size, 2, none⟩ = some (.int .i64 sq) := HB1.out.blk.cell 2
  have q3 : w1.cell? ⟨w.heap.size, 3, none⟩ = some (.slice C cl.length cc) := HB1.out.blk.cell 3
  go_wp2
  go_loopw [18] (fun i wr => ∃ k : Nat, k ≤ cl.length ∧ i = .int .i64 k ∧ s ∉ snAll ((cl.take k).map CA.v) ∧ Box1 w 36 #[.bool th, .slice D dt.length cd, .int .i64 sq, .slice C cl.length cc] wr) (fun i _ => cl.length - (intOf i).toNat)
  case atStart => exact ⟨0, by omega, rfl, by simp [snAll], HB1.out⟩
  case round =>
    obtain ⟨k, hk, rfl, hn, hb⟩ := hrel
    have HI := Lib.hid (And.intro hn hb)
    clear hn hb q0 q1 q2 q3
    obtain ⟨wo, hwo⟩ : ∃ wo, wo = wr := ⟨_, rfl⟩
    subst hwo
    by_cases hlt : k < cl.length
    · have hwk : IntKind.i64.wrap ((k : Int) + 1) = (k : Int) + 1 := by rw [IntKind.wrap_i64]; omega
      obtain ⟨c, hcl⟩ : ∃ c, cl[k]? = some c := ⟨_, List.getElem?_eq_getElem hlt⟩
      have hRr := H.out.since HI.out.2.bel
      obtain ⟨ad, rfl, hl, hc⟩ := hRr.get hcl
      have hok := hRr.cl c (List.mem_of_getElem? hcl)
      have hsm := HSM.out.cl c (List.mem_of_getElem? hcl)
      have HCL := Lib.hid hcl
      have hs1 := hok.s1
      have hx2 := hok.d2
      have hba : Below wo.heap.size wo (wo.alloc (.cells #[.slice c.S c.sn.length c.cs, .slice c.D c.dt.length c.cd] 79)) := below_alloc wo _
      have HCT := Lib.hid (contains_any (c := c.cs) s (hok.since hba).sn (by omega))
      have HCV := Lib.hid (clone_any c.D c.dt.length c.cd c.dt (wo.alloc (.cells #[.slice c.S c.sn.length c.cs, .slice c.D c.dt.length c.cd] 79)) _ (by omega) (hok.since hba).dt)
      have HBA := Lib.hid (HI.out.2.next hba)
      have HDT := Lib.hid hok.dt.2
      clear hRr hok hcl hba
      go_wp2_with (have _h := hc; refine wpList_load_scl rfl (.tmp 20) rfl _ rfl c hc ?_; clear _h hc)
      refine HCT.out.mono ?_
      rintro e w' ⟨rfl, rfl⟩
      have hbel := HBA.out.bel
      by_cases hct : c.sn.contains s = true
      · have hat := atC_at HCL.out HI.out.1 (List.contains_iff_mem.1 hct)
        have HAT := Lib.hid hat
        clear hat hbel
        generalize c.sn.contains s = bb at hct ⊢
        subst hct
        go_wp2_with fail
        refine HCV.out.mono ?_
        rintro e w2 ⟨v, rfl, hv, hb2⟩
        have HFIN : Hid (AtTo w ov s (.returned (.tuple #[v, .bool true])) w2) := Lib.hid ⟨(HBA.out.next hb2).bel, .inl ⟨c.dt, v, HGO.out, by omega, by rw [HOV.out]; unfold atO; simp only [OA.v, OA.vs]; rw [HAT.out], rfl, hv.weaken (HBA.out.bel.size), HDT.out⟩⟩
        clear hv hb2 HCV
        go_wp2
        go_ret2
        exact HFIN.out
      · have hct' : c.sn.contains s = false := by simpa using hct
        have HCF := Lib.hid hct'
        clear hbel hct
        generalize c.sn.contains s = bb at hct' ⊢
        subst hct'
        go_wp2
        go_roundw
        case rel =>
          refine ⟨k + 1, by omega, by go_num, ?_, HBA.out⟩
          rw [snAll_succ HCL.out]
          intro hm
          rcases List.mem_append.1 hm with h | h
          · exact HI.out.1 h
          · have := List.contains_iff_mem.2 h
            rw [HCF.out] at this
            cases this
        case measure => simp [intOf]; omega
    · obtain rfl : k = cl.length := by omega
      have q0 : wo.cell? ⟨w.heap.size, 0, none⟩ = some (.bool th) := HI.out.2.blk.cell 0
      have q1 : wo.cell? ⟨w.heap.size, 1, none⟩ = some (.slice D dt.length cd) := HI.out.2.blk.cell 1
      have q2 : wo.cell? ⟨w.heap.size, 2, none⟩ = some (.int .i64 sq) := HI.out.2.blk.cell 2
      have hac : atC ov.cl s = none := by
        rw [HOV.out]
        have := HI.out.1
        rw [List.take_of_length_le (Nat.le_refl _)] at this
        exact atC_none.2 this
      have HA : Hid (atO ov s = headAt ov s) := Lib.hid (by unfold atO; rw [hac])
      have HDT := Lib.hid (H.out.since HI.out.2.bel).dt
      have HSD : Hid (dt.length ≤ 10000) := Lib.hid HSM.out.dt
      clear hac
      by_cases hth : th = true ∧ ¬ (0 < s ∧ s ≤ sq)
      · have hh : headAt ov s = some dt := by rw [HOV.out]; exact headAt_yes hth
        have HH := Lib.hid hh
        have ht : th = true := hth.1
        have HCV := Lib.hid (clone_any D dt.length cd dt wo _ (by have := HSD.out; omega) HDT.out)
        rw [ht] at q0
        clear hh ht
        have hpost : ∀ (v : Value) (w2 : World), Own w2 wo.heap.size v dt.length dt → Below wo.heap.size wo w2 → AtTo w ov s (.returned (.tuple #[v, .bool true])) w2 := fun v w2 hv hb2 => ⟨(HI.out.2.next hb2).bel, .inl ⟨dt, v, HGO.out, by omega, by rw [HA.out, HH.out], rfl, hv.weaken HI.out.2.bel.size, HDT.out.2⟩⟩
        have HP := Lib.hid hpost
        clear hpost
        by_cases hs0 : 0 < s
        · have f1 : decide (0 < s) = true := decide_eq_true hs0
          have f2 : decide (s ≤ sq) = false := decide_eq_false fun h => hth.2 ⟨hs0, h⟩
          clear hth
          go_wp2_with fail
          refine HCV.out.mono ?_
          rintro e w2 ⟨v, rfl, hv, hb2⟩
          have HFIN := Lib.hid (HP.out v w2 hv hb2)
          clear hv hb2 HCV
          go_wp2
          go_ret2
          exact HFIN.out
        · have f1 : decide (0 < s) = false := decide_eq_false hs0
          clear hth
          go_wp2_with fail
          refine HCV.out.mono ?_
          rintro e w2 ⟨v, rfl, hv, hb2⟩
          have HFIN := Lib.hid (HP.out v w2 hv hb2)
          clear hv hb2 HCV
          go_wp2
          go_ret2
          exact HFIN.out
      · have hh : headAt ov s = none := by rw [HOV.out]; exact headAt_no hth
        have HN : Hid (AtTo w ov s (.returned (.tuple #[.slice none 0 0, .bool false])) wo) := Lib.hid (AtTo.no (fun _ _ => by rw [HA.out, hh]) HI.out.2.bel)
        clear hh
        cases th with
        | false =>
          clear hth
          go_wp2
          go_ret2
          exact HN.out
        | true =>
          have ht : true = true := rfl
          have hs0 : 0 < s := by
            rcases Int.lt_or_le 0 s with h | h
            · exact h
            · exact absurd ⟨ht, fun h' => by omega⟩ hth
          have hs1 : s ≤ sq := by
            rcases Int.lt_or_le sq s with h | h
            · exact absurd ⟨ht, fun h' => by omega⟩ hth
            · exact h
          have f1 : decide (0 < s) = true := decide_eq_true hs0
          have f2 : decide (s ≤ sq) = true := decide_eq_true hs1
          clear ht hth
          go_wp2
          go_ret2
          exact HN.out
end Go.Proofs.Yteghbfkkpnlilaa

/-
  What the calls of the program's reader, nil or not, do. Conditions: the reader lies where it is said to.
-/
namespace Go.Proofs.Yteghbfkkpnlilaa
open Go.RowKit
set_option linter.unusedSimpArgs false
set_option maxRecDepth 100000
set_option linter.unusedVariables false
def RdAt (w : World) (base : Nat) (F : List Nat) (g : Nat) (s : RD) : Prop :=
  ∃ A c, F = g :: (A.map Addr.block).toList ∧ Blk w g 122 #[.slice A s.bs.length c, .bool s.bad] ∧ Bytes w w.heap.size A s.bs.length s.bs ∧ s.bs.length ≤ c ∧ c ≤ maxLen ∧ base ≤ g ∧ (∀ a, A = some a → base ≤ a.block ∧ a.block < w.heap.size ∧ a.block ≠ g) ∧ s.Good
def Rd (w : World) (base : Nat) (F : List Nat) (p : Option Addr) (s : RD) : Prop := (p = none ∧ F = [] ∧ s = RD.spoilt) ∨ ∃ g, p = some ⟨g, 0, none⟩ ∧ RdAt w base F g s
def RTo (w : World) (base : Nat) (F : List Nat) (p : Option Addr) (s : RD) (w' : World) : Prop := ∃ F', Rd w' base F' p s ∧ Only F w w' ∧ Fresh w F F'
section
variable {w w' w1 : World} {base g : Nat} {F : List Nat} {p : Option Addr} {s : RD}
theorem RdAt.of (h : RdAt w base F g s) (hs : w.heap.size ≤ w'.heap.size) (hk : ∀ k, k ∈ F → w'.heap[k]? = w.heap[k]?) : RdAt w' base F g s := by
  obtain ⟨A, c, rfl, h1, h2, h3, h4, h5, h6, h7⟩ := h
  refine ⟨A, c, rfl, h1.of (hk g (by simp)), ⟨⟨h2.1.1, fun hn => ?_⟩, h2.2⟩, h3, h4, h5, fun a ha => ⟨(h6 a ha).1, Nat.lt_of_lt_of_le (h6 a ha).2.1 hs, (h6 a ha).2.2⟩, h7⟩
  obtain ⟨ad, e, hB, hc⟩ := h2.1.2 hn
  exact ⟨ad, e, Nat.lt_of_lt_of_le hB hs, fun j u hu => (World.cell?_of_block (hk _ (by rw [block_of_add, e]; simp))).trans (hc j u hu)⟩
theorem RdAt.under (h : RdAt w base F g s) : Under w F := by
  obtain ⟨A, c, rfl, h1, h2, h3, h4, h5, h6, h7⟩ := h
  intro k hk
  rcases List.mem_cons.1 hk with rfl | hk
  · exact h1.lt
  · cases A with
    | none => cases hk
    | some a => simp at hk; subst hk; exact (h6 a rfl).2.1
theorem RdAt.over (h : RdAt w base F g s) : Over base F := by
  obtain ⟨A, c, rfl, h1, h2, h3, h4, h5, h6, h7⟩ := h
  intro k hk
  rcases List.mem_cons.1 hk with rfl | hk
  · exact h5
  · cases A with
    | none => cases hk
    | some a => simp at hk; subst hk; exact (h6 a rfl).1
theorem Rd.under (h : Rd w base F p s) : Under w F := by
  rcases h with ⟨_, rfl, _⟩ | ⟨g, _, h⟩
  · exact fun k hk => by cases hk
  · exact h.under
theorem Rd.over (h : Rd w base F p s) : Over base F := by
  rcases h with ⟨_, rfl, _⟩ | ⟨g, _, h⟩
  · exact fun k hk => by cases hk
  · exact h.over
theorem Rd.of (h : Rd w base F p s) (hs : w.heap.size ≤ w'.heap.size) (hk : ∀ k, k ∈ F → w'.heap[k]? = w.heap[k]?) : Rd w' base F p s := by
  rcases h with h | ⟨g, hp, h⟩
  · exact .inl h
  · exact .inr ⟨g, hp, h.of hs hk⟩
theorem Rd.below (h : Rd w base F p s) (hb : Below w.heap.size w w') : Rd w' base F p s := h.of hb.size fun k hk => hb.block k (h.under k hk)
theorem Rd.good (h : Rd w base F p s) : s.Good := by
  rcases h with ⟨_, _, rfl⟩ | ⟨g, _, A, c, _, _, _, _, _, _, _, h⟩
  · exact RD.spoilt_good
  · exact h
theorem RTo.after {F1 : List Nat} (ho : Only F w w1) (hf : Fresh w F F1) (h : RTo w1 base F1 p s w') : RTo w base F p s w' := by
  obtain ⟨F2, h1, h2, h3⟩ := h
  exact ⟨F2, h1, ho.trans h2 hf, hf.trans h3 ho.size⟩
theorem RTo.stay (h : Rd w base F p s) : RTo w base F p s w := ⟨F, h, Only.refl _ _, Fresh.refl _ _⟩
theorem RTo.then_ (h : RTo w base F p s w1) (hb : Below w1.heap.size w1 w') : RTo w base F p s w' := by
  obtain ⟨F2, h1, h2, h3⟩ := h
  exact ⟨F2, h1.below hb, h2.trans (Only.of_below hb F2) h3, h3⟩
end
theorem left_any (w : World) (base : Nat) (F : List Nat) (p : Option Addr) (s : RD) (h : Rd w base F p s) :
    Calls Try.prog 91 #[.pointer p] w fun e w' => e = .returned (.int .i64 s.bs.length) ∧ w = w' := by
  rcases h with ⟨rfl, rfl, rfl⟩ | ⟨g, rfl, A, c, rfl, h1, h2, h3, h4, h5, h6, h7⟩
  · go_enter Try.func91, Try.ntmps91
    go_wp2
    go_ret
    exact ⟨rfl, rfl⟩
  · have hc : w.cell? ⟨g, 0, none⟩ = some (.slice A s.bs.length c) := by rw [h1.cell]; rfl
    go_enter Try.func91, Try.ntmps91
    go_wp2
    go_ret
    exact ⟨rfl, rfl⟩
theorem reader_zero (w : World) : (zeroValue 122).run Try.prog w = .ok (.agg #[.slice none 0 0, .bool false]) w := by kernel_rfl
theorem spoil_any (w : World) (base : Nat) (F : List Nat) (p : Option Addr) (s : RD) (h : Rd w base F p s) :
    Calls Try.prog 88 #[.pointer p] w fun e w' => e = .returned (.tuple #[]) ∧ RTo w base F p RD.spoilt w' := by
  rcases h with ⟨rfl, rfl, rfl⟩ | ⟨g, rfl, A, c, rfl, h1, h2, h3, h4, h5, h6, h7⟩
  · go_enter Try.func88, Try.ntmps88
    go_wp2
    refine bodyPost_end (results_none rfl _ _ _) rfl ?_
    exact ⟨rfl, RTo.stay (.inl ⟨rfl, rfl, rfl⟩)⟩
  · have hc0 : w.cell? ⟨g, 0, none⟩ = some (.slice A s.bs.length c) := by rw [h1.cell]; rfl
    have hc1 : w.cell? ⟨g, 1, none⟩ = some (.bool s.bad) := by rw [h1.cell]; rfl
    have hf0 : w.frozen? ⟨g, 0, none⟩ = false := h1.frozen _
    have hf1 : w.frozen? ⟨g, 1, none⟩ = false := h1.frozen _
    have hz := reader_zero
    go_enter Try.func88, Try.ntmps88
    go_wp2
    refine bodyPost_end (results_none rfl _ _ _) rfl ?_
    have hb2 : Blk ((w.setCell ⟨g, 0, none⟩ (.slice none 0 0)).setCell ⟨g, 1, none⟩ (.bool true)) g 122 #[.slice none 0 0, .bool true] := (h1.set_ 0 _).set_ 1 _
    exact ⟨rfl, [g], .inr ⟨g, rfl, none, 0, rfl, hb2, ⟨Reads.none_, fun b hb => by cases hb⟩, Nat.le_refl _, by simp [maxLen], h5, fun a ha => (by cases ha), RD.spoilt_good⟩,
      ((Only.refl _ _).setCell (.inl (by simp)) _).setCell (.inl (by simp)) _, fun k hk => .inl (by simp at hk; subst hk; simp)⟩
theorem cut_addr (A : Option Addr) (k cap : Nat) (a : Addr) (h : (if cap = k then A else A.map (·.add k)) = some a) : ∃ a', A = some a' ∧ a'.block = a.block := by
  split at h
  · exact ⟨a, h, rfl⟩
  · cases A with
    | none => cases h
    | some a' => simp at h; exact ⟨a', rfl, by rw [← h, block_of_add]⟩
theorem RD.take_fit {s : RD} {k : Nat} (hb : s.bad = false) (hk : k ≤ s.bs.length) : s.take k = ⟨s.bs.drop k, false⟩ ∧ s.got k = s.bs.take k := by
  have : s.fits k = true := by simp [RD.fits, hb]; omega
  simp [RD.take, RD.got, this]
theorem RD.take_un {s : RD} {n : Int} (h : n < 0 ∨ (s.bs.length : Int) < n ∨ s.bad = true) : s.take n = RD.spoilt ∧ s.got n = [] := by
  have : s.fits n = false := by
    simp only [RD.fits, Bool.and_eq_false_iff, Bool.not_eq_false', decide_eq_false_iff_not]
    rcases h with h | h | h
    · exact .inl (.inr (by omega))
    · exact .inr (by omega)
    · exact .inl (.inl h)
  simp [RD.take, RD.got, this]
theorem RD.eta {s : RD} (h : s.Good) (hb : s.bad = true) : s = RD.spoilt := by
  obtain ⟨bs, bad⟩ := s
  have := h.1 hb
  simp at hb this
  subst hb this
  rfl
theorem take_done (w : World) (base g k : Nat) (A : Option Addr) (c : Nat) (s : RD) (h1 : Blk w g 122 #[.slice A s.bs.length c, .bool s.bad]) (h2 : Bytes w w.heap.size A s.bs.length s.bs) (h3 : s.bs.length ≤ c) (h4 : c ≤ maxLen) (h5 : base ≤ g) (h6 : ∀ a, A = some a → base ≤ a.block ∧ a.block < w.heap.size ∧ a.block ≠ g) (h7 : s.Good) (hk : k ≤ s.bs.length) (hbad : s.bad = false) :
    RTo w base (g :: (A.map Addr.block).toList) (some ⟨g, 0, none⟩) ⟨s.bs.drop k, false⟩ (w.setCell ⟨g, 0, none⟩ (.slice (if c = k then A else A.map (·.add k)) (s.bs.length - k) (c - k))) ∧
    Bytes (w.setCell ⟨g, 0, none⟩ (.slice (if c = k then A else A.map (·.add k)) (s.bs.length - k) (c - k))) w.heap.size A k (s.bs.take k) := by
  have hset : ∀ (B n : Nat) (A' : Option Addr) (bs : List Nat) (v : Value), Bytes w B A' n bs → (∀ a, A' = some a → a.block ≠ g) → Bytes (w.setCell ⟨g, 0, none⟩ v) B A' n bs := fun B n A' bs v h hne =>
    ⟨⟨h.1.1, fun hn => by
      obtain ⟨ad, e, hB, hc⟩ := h.1.2 hn
      exact ⟨ad, e, hB, fun j u hu => (World.cell?_setCell_other _ _ _ _ (fun e' => hne ad e (by have := congrArg Addr.block e'; rw [block_of_add] at this; exact this.symm))).trans (hc j u hu)⟩⟩, h.2⟩
  have hcut : Bytes w w.heap.size (if c = k then A else A.map (·.add k)) (s.bs.length - k) (s.bs.drop k) := by
    have := h2.1.cut hk h3
    rw [Nat.mul_one, u8s, ← List.map_drop] at this
    exact ⟨this, fun b hb => h2.2 b (List.mem_of_mem_drop hb)⟩
  refine ⟨⟨g :: ((if c = k then A else A.map (·.add k)).map Addr.block).toList, .inr ⟨g, rfl, _, c - k, rfl, ?_, ?_, ?_, by omega, h5, fun a ha => ?_, ?_⟩, (Only.refl _ _).setCell (.inl (by simp)) _, fun j hj => .inl ?_⟩, hset _ _ _ _ _ (h2.take hk) (fun a ha => (h6 a ha).2.2)⟩
  · have := h1.set_ 0 (.slice (if c = k then A else A.map (·.add k)) (s.bs.length - k) (c - k))
    rw [hbad] at this
    simpa using this
  · have := hset _ _ _ _ (.slice (if c = k then A else A.map (·.add k)) (s.bs.length - k) (c - k)) hcut (fun a ha => by
      obtain ⟨a', h, hb⟩ := cut_addr A k c a ha
      rw [← hb]
      exact (h6 a' h).2.2)
    simp only [List.length_drop]
    exact this.more (by simp [World.setCell])
  · simp only [List.length_drop]; omega
  · obtain ⟨a', h, hb⟩ := cut_addr A k c a ha
    rw [← hb]
    have := h6 a' h
    exact ⟨this.1, by simpa [World.setCell] using this.2.1, this.2.2⟩
  · exact ⟨fun e => (by cases e), fun b hb => h7.2 b (List.mem_of_mem_drop hb)⟩
  · rcases List.mem_cons.1 hj with rfl | hj
    · simp
    · refine List.mem_cons_of_mem _ ?_
      simp only [Option.mem_toList, Option.mem_def, Option.map_eq_some_iff] at hj ⊢
      obtain ⟨a, ha, rfl⟩ := hj
      obtain ⟨a', h, hb⟩ := cut_addr A k c a ha
      exact ⟨a', h, hb⟩
theorem take_any (w : World) (base : Nat) (F : List Nat) (p : Option Addr) (s : RD) (n : Int) (h : Rd w base F p s) (hn1 : -9223372036854775808 ≤ n) (hn2 : n ≤ 9223372036854775807) :
    Calls Try.prog 89 #[.pointer p, .int .i64 n] w fun e w' => ∃ A c, e = .returned (.slice A (s.got n).length c) ∧ RTo w base F p (s.take n) w' ∧ (∃ B, Bytes w' B A (s.got n).length (s.got n)) ∧ (∀ a, A = some a → a.block ∈ F) ∧ (A = none → (s.got n).length = 0) := by
  by_cases h0 : n < 0
  · obtain ⟨e1, e2⟩ := RD.take_un (s := s) (.inl h0)
    rw [e1, e2]
    have hd : decide (n < 0) = true := by simpa using h0
    go_enter Try.func89, Try.ntmps89
    go_wp2_with fail
    refine (spoil_any w base F p s h).mono ?_
    rintro e w1 ⟨rfl, r1⟩
    go_wp2
    go_ret
    exact ⟨none, 0, rfl, r1, ⟨0, Reads.none_, fun b hb => by cases hb⟩, fun a ha => (by cases ha), by simp⟩
  · have hd : decide (n < 0) = false := by simpa using h0
    by_cases hl : (s.bs.length : Int) < n
    · obtain ⟨e1, e2⟩ := RD.take_un (s := s) (n := n) (.inr (.inl hl))
      rw [e1, e2]
      have hd2 : decide ((s.bs.length : Int) < n) = true := by simpa using hl
      go_enter Try.func89, Try.ntmps89
      go_wp2_with fail
      refine (left_any w base F p s h).mono ?_
      rintro e w1 ⟨rfl, rfl⟩
      go_wp2_with fail
      refine (spoil_any w base F p s h).mono ?_
      rintro e w1 ⟨rfl, r1⟩
      go_wp2
      go_ret
      exact ⟨none, 0, rfl, r1, ⟨0, Reads.none_, fun b hb => by cases hb⟩, fun a ha => (by cases ha), by simp⟩
    · have hd2 : decide ((s.bs.length : Int) < n) = false := by simpa using hl
      obtain ⟨k, rfl⟩ := Int.eq_ofNat_of_zero_le (show 0 ≤ n by omega)
      by_cases hk0 : k = 0
      · subst hk0
        have hd3 : (((0 : Nat) : Int) == 0) = true := rfl
        have e1 : s.take ((0 : Nat) : Int) = s ∧ s.got ((0 : Nat) : Int) = [] := by
          cases hb : s.bad with
          | true => rw [RD.eta h.good hb]; exact ⟨rfl, rfl⟩
          | false =>
            obtain ⟨e1, e2⟩ := RD.take_fit (k := 0) hb (Nat.zero_le _)
            rw [e1, e2]
            obtain ⟨bs, bad⟩ := s
            simp at hb
            subst hb
            exact ⟨rfl, rfl⟩
        rw [e1.1, e1.2]
        go_enter Try.func89, Try.ntmps89
        go_wp2_with fail
        refine (left_any w base F p s h).mono ?_
        rintro e w1 ⟨rfl, rfl⟩
        go_wp2
        go_ret
        exact ⟨none, 0, rfl, RTo.stay h, ⟨0, Reads.none_, fun b hb => by cases hb⟩, fun a ha => (by cases ha), by simp⟩
      · have hd3 : ((k : Int) == 0) = false := by simp; omega
        have hkl : k ≤ s.bs.length := by omega
        have hbad : s.bad = false := by
          cases hb : s.bad with
          | false => rfl
          | true => have := h.good.1 hb; rw [this] at hkl; simp at hkl; omega
        obtain ⟨e1, e2⟩ := RD.take_fit hbad hkl
        rw [e1, e2]
        have hlc := left_any w base F p s h
        rcases h with ⟨rfl, rfl, rfl⟩ | ⟨g, rfl, A, c, rfl, h1, h2, h3, h4, h5, h6, h7⟩
        · simp [RD.spoilt] at hkl; omega
        · have hc0 : w.cell? ⟨g, 0, none⟩ = some (.slice A s.bs.length c) := by rw [h1.cell]; rfl
          have hf0 : w.frozen? ⟨g, 0, none⟩ = false := h1.frozen _
          unfold maxLen at h4
          have q1 : (0 : Int) ≤ (k : Int) := by omega
          have q2 : (k : Int) ≤ (c : Int) := by omega
          have q3 : (k : Int) ≤ (s.bs.length : Int) := by omega
          have hkc : k ≤ c := by omega
          go_enter Try.func89, Try.ntmps89
          go_wp2_with fail
          refine hlc.mono ?_
          rintro e w1 ⟨he, hw⟩
          subst hw
          subst he
          have hdone := take_done w base g k A c s h1 h2 h3 h4 h5 h6 h7 hkl hbad
          have hlen : (s.bs.take k).length = k := by rw [List.length_take]; omega
          have hAF : ∀ a, A = some a → a.block ∈ g :: (A.map Addr.block).toList := fun a ha => by subst ha; simp
          have hAn : A = none → (s.bs.take k).length = 0 := fun ha => by
            subst ha
            obtain ⟨_, h, _⟩ := h2.1.2 (by omega)
            cases h
          have HD := Lib.hid hdone
          have HAF := Lib.hid hAF
          have HAn := Lib.hid hAn
          clear hdone hAF hAn
          by_cases hck : c = k
          · have hHD := HD.out
            rw [if_pos hck] at hHD
            have HD2 := Lib.hid hHD
            clear hHD HD
            subst hck
            go_wp2
            go_ret
            rw [hlen]
            have := HD2.out
            rw [Nat.sub_self, show s.bs.length - c = 0 by omega] at this
            exact ⟨A, _, rfl, this.1, ⟨_, this.2⟩, HAF.out, by rw [← hlen]; exact HAn.out⟩
          · have hHD := HD.out
            rw [if_neg hck] at hHD
            have HD2 := Lib.hid hHD
            clear hHD HD
            go_wp2
            go_ret
            rw [hlen]
            exact ⟨A, _, rfl, HD2.out.1, ⟨_, HD2.out.2⟩, HAF.out, by rw [← hlen]; exact HAn.out⟩
end Go.Proofs.Yteghbfkkpnlilaa

/-
  What the program's reader reads: a byte, a number, a flag, bytes, a text, numbers; its end. Conditions: the reader lies where it is said to.
-/
namespace Go.Proofs.Yteghbfkkpnlilaa
open Go.RowKit
set_option linter.unusedSimpArgs false
set_option maxRecDepth 100000
set_option linter.unusedVariables false
theorem byte_size1 : (Try.prog.info? 5).map (·.size) = some 1 := by kernel_rfl
theorem wp_copy_full {o : Oper} {a : Act} {w : World} {K : Act → World → Prop} {Q : Exit → Act → World → Prop} (x y : Operand) (ho : o.op = .call { callee := .builtin .copy, args := #[x, y], argTypes := #[22, 22] })
    (gb m : Nat) (t : TypeId) (cur : List Value) (hg : Blk w gb t cur.toArray) (hcur : cur.length = m) (hx : a.eval x = .slice (some ⟨gb, 0, none⟩) m m) (A : Option Addr) (k c B : Nat) (bs : List Nat) (hy : a.eval y = .slice A k c) (hb : Bytes w B A k bs) (hk : k = m ∨ k = 0) (hm : 0 < m)
    (h : ∀ w', Blk w' gb t (if k = 0 then cur else u8s bs).toArray → Only [gb] w w' → K (a.put o.dst (goInt k)) w') : o.wp Try.prog a w K Q := by
  rcases hk with rfl | rfl
  · obtain ⟨ad, rfl, hB, hc⟩ := hb.1.2 hm
    have hl : (u8s bs).length = k := by rw [u8s_length, hb.len]
    have hrun := run_copy_row (P := Try.prog) w 22 22 o.type 5 gb 0 k k ad k c cur.toArray t (u8s bs) Try.underlying22 byte_size1 hg (by rw [hl]; exact (Nat.min_self k).symm) hc (by simp [hl, hcur]) (oneCell_u8s _)
    unfold Oper.wp
    simp [execOp, ho, resolve, invoke, builtin, hx, hy, hrun, Result.andThen]
    rw [hl]
    refine h _ ?_ ?_
    · rw [if_neg (by omega)]
      have := setRow_heap w gb cur.toArray (u8s bs).toArray t (0, 0) hg
      have e : (u8s bs ++ List.drop k cur).toArray = (u8s bs).toArray := by rw [List.drop_of_length_le (by omega), List.append_nil]
      unfold Blk
      simpa [e, hl, hcur, List.drop_of_length_le (show cur.length ≤ k by omega)] using this
    · exact ⟨rfl, rfl, rfl, by simp [World.setRow], fun j hj hn => setRow_other w gb j _ (fun e => hn (by simp [e]))⟩
  · have hrun := run_copy_none (P := Try.prog) w 22 22 o.type 5 (some ⟨gb, 0, none⟩) A m m 0 c Try.underlying22 byte_size1 (Nat.zero_min m)
    unfold Oper.wp
    simp [execOp, ho, resolve, invoke, builtin, hx, hy, hrun, Result.andThen]
    exact h w (by simpa using hg) (Only.refl _ _)
theorem got_len (s : RD) (k : Nat) : (s.got k).length = k ∨ (s.got k).length = 0 := by
  unfold RD.got
  split
  · rename_i h
    simp [RD.fits] at h
    left
    rw [List.length_take]
    omega
  · exact .inr rfl
theorem unpacked_list (l : List Nat) (hl : l.length = 8) (hb : ∀ b ∈ l, b < 256) (w : World) :
    Calls Try.prog 90 #[.agg (u8s l).toArray] w fun e w' => e = .returned (.int .i64 (numOf l)) ∧ Below w.heap.size w w' := by
  match l, hl with
  | [b0, b1, b2, b3, b4, b5, b6, b7], _ => exact unpacked_any b0 b1 b2 b3 b4 b5 b6 b7 w (hb _ (by simp)) (hb _ (by simp)) (hb _ (by simp)) (hb _ (by simp)) (hb _ (by simp)) (hb _ (by simp)) (hb _ (by simp)) (hb _ (by simp))
def padded (m : Nat) (l : List Nat) : List Nat := if l.length = 0 then List.replicate m 0 else l
theorem numOf_padded (l : List Nat) : numOf (padded 8 l) = numOf l := by
  unfold padded
  split
  · rename_i h
    obtain rfl := List.eq_nil_of_length_eq_zero h
    simp [numOf, un, List.replicate]
  · rfl
theorem rnum_any (w : World) (base : Nat) (F : List Nat) (p : Option Addr) (s : RD) (h : Rd w base F p s) (hB : base ≤ w.heap.size) :
    Calls Try.prog 56 #[.pointer p] w fun e w' => e = .returned (.int .i64 s.num) ∧ RTo w base F p (s.take 8) w' := by
  obtain ⟨Zs, hz, hZs⟩ : ∃ Zs : List Value, (∀ w, (zeroValue 118).run Try.prog w = .ok (.agg Zs.toArray) w) ∧ Zs = u8s (List.replicate 8 0) := ⟨_, eight_zero, rfl⟩
  have hzl : Zs.length = 8 := by rw [hZs, u8s_length]; rfl
  have HZ := Lib.hid hZs
  clear hZs
  have B0 := Lib.hid (Blk.new w 118 Zs.toArray)
  have b0 := below_alloc w (.cells Zs.toArray 118)
  have H0 := Lib.hid (h.below b0)
  have hgw : w.heap.size ∉ F := fun hm => by have := h.under _ hm; omega
  have b0' := Lib.hid b0
  clear h b0
  go_enter Try.func56, Try.ntmps56
  go_wp2_with fail
  have hBw : base ≤ (w.alloc (.cells Zs.toArray 118)).heap.size := Nat.le_trans hB b0'.out.size
  generalize w.alloc (.cells Zs.toArray 118) = w0 at *
  generalize hgb : w.heap.size = gb at *
  refine any_begin (by kernel_rfl) ?_
  refine wpAny_take (i := 0) (v := .slice (some ⟨gb, 0, none⟩) 8 8) rfl (by kernel_rfl) (by kernel_rfl) (by kernel_rfl) (fun _ _ _ h => h) (Or.inl ⟨by rfl, fun w => by go_simp⟩) ?_
  simp only [Act.put, List.getElem_toArray, List.getElem_cons_succ, List.getElem_cons_zero, List.setIfInBounds_toArray, List.set_cons_zero, List.set_cons_succ]
  refine wpAny_take (i := 1) (v := .pointer p) rfl (by kernel_rfl) (by kernel_rfl) (by kernel_rfl) (fun _ _ _ h => h) (Or.inl ⟨by rfl, fun w => by kernel_rfl⟩) ?_
  simp only [Act.put, List.getElem_toArray, List.getElem_cons_succ, List.getElem_cons_zero, List.setIfInBounds_toArray, List.set_cons_zero, List.set_cons_succ]
  refine do_one (i := 2) (by kernel_rfl) rfl (by rfl) ?_
  simp only [Act.put, List.getElem_toArray, List.getElem_cons_succ, List.getElem_cons_zero, List.setIfInBounds_toArray, List.set_cons_zero, List.set_cons_succ]
  refine wp_called (by kernel_rfl) (take_any w0.drew base F p s 8 (H0.out.of (Nat.le_refl _) (fun _ _ => rfl)) (by omega) (by omega)) ?_
  rintro e w1 ⟨A, c, rfl, ⟨F1, r1, o1, f1⟩, ⟨B, hb⟩, -, -⟩
  refine ⟨_, rfl, ?_⟩
  simp only [Act.put, List.getElem_toArray, List.getElem_cons_succ, List.getElem_cons_zero, List.setIfInBounds_toArray, List.set_cons_zero, List.set_cons_succ]
  have B1 : Blk w1 gb 118 Zs.toArray := B0.out.of (o1.block gb B0.out.lt hgw)
  refine do_one (i := 3) (by kernel_rfl) rfl (by rfl) ?_
  simp only [Act.put, List.getElem_toArray, List.getElem_cons_succ, List.getElem_cons_zero, List.setIfInBounds_toArray, List.set_cons_zero, List.set_cons_succ]
  refine wp_copy_full (.tmp 4) (.tmp 6) rfl gb 8 118 Zs B1 hzl (by rfl) A _ c B _ (by rfl) hb (got_len s 8) (by omega) ?_
  intro w2 B2 o2
  simp only [Act.put, List.getElem_toArray, List.getElem_cons_succ, List.getElem_cons_zero, List.setIfInBounds_toArray, List.set_cons_zero, List.set_cons_succ]
  refine wpAny_done (by kernel_rfl) ?_ _
  refine NoPanic.normal ?_
  have hpad : (if (s.got 8).length = 0 then Zs else u8s (s.got 8)) = u8s (padded 8 (s.got 8)) := by
    unfold padded
    rw [HZ.out]
    split
    · rfl
    · rfl
  rw [hpad] at B2
  have hgood := (H0.out.good)
  have hpl : (padded 8 (s.got 8)).length = 8 := by
    unfold padded
    split
    · simp
    · exact (got_len s 8).resolve_right (by assumption)
  have hpb : ∀ b ∈ padded 8 (s.got 8), b < 256 := by
    unfold padded
    split
    · intro b hb; obtain ⟨_, rfl⟩ := List.mem_replicate.1 hb; omega
    · exact RD.got_lt hgood 8
  have R2 : RTo w base F p (s.take 8) w2 := by
    have hf : Fresh w F F1 := fun k hk => (f1 k hk).imp id (fun h => Nat.le_trans (show w.heap.size ≤ w0.drew.heap.size from b0'.out.size) h)
    refine ⟨F1, r1.of o2.size (fun k hk => o2.block k (r1.under k hk) (fun hm => ?_)), ((Only.of_below (w' := w0.drew) (by rw [hgb]; exact b0'.out.drew) F).trans (F' := F) o1 (Fresh.refl _ _)).trans o2 (fun k hk => .inr (by simp at hk; omega)), hf⟩
    simp at hm
    subst hm
    rcases f1 _ hk with h | h
    · exact hgw h
    · have : k < w0.heap.size := B0.out.lt
      have h' : w0.heap.size ≤ k := h
      omega
  have HR := Lib.hid R2
  have H2 := Lib.hid B2
  have hrg : w2.rangeAt gb 0 (u8s (padded 8 (s.got 8))) := B2.range
  have hi : (Try.prog.info? 118).map (·.size) = some (u8s (padded 8 (s.got 8))).length := by rw [u8s_length, hpl]; exact eight_size
  have hu := Try.underlying118
  have HP := Lib.hid (And.intro hpl hpb)
  clear hpad hpl hpb R2 B2 o2 hb B1 r1 o1 f1 hgood
  go_wp2_with (refine wpList_load_mid rfl 118 (.tmp 3) rfl gb 0 rfl (u8s (padded 8 (s.got 8))) _ hrg hu rfl hi ?_)
  refine (unpacked_list _ HP.out.1 HP.out.2 w2).mono ?_
  rintro e w3 ⟨rfl, b3⟩
  rw [numOf_padded]
  go_wp2
  go_ret
  exact ⟨rfl, HR.out.then_ b3⟩
theorem one_zero (w : World) : (zeroValue 130).run Try.prog w = .ok (.agg (u8s (List.replicate 1 0)).toArray) w := by kernel_rfl
theorem rbyte_any (w : World) (base : Nat) (F : List Nat) (p : Option Addr) (s : RD) (h : Rd w base F p s) (hB : base ≤ w.heap.size) :
    Calls Try.prog 87 #[.pointer p] w fun e w' => e = .returned (.int .u8 s.byte) ∧ RTo w base F p (s.take 1) w' := by
  obtain ⟨Zs, hz, hZs⟩ : ∃ Zs : List Value, (∀ w, (zeroValue 130).run Try.prog w = .ok (.agg Zs.toArray) w) ∧ Zs = u8s (List.replicate 1 0) := ⟨_, one_zero, rfl⟩
  have hzl : Zs.length = 1 := by rw [hZs, u8s_length]; rfl
  have HZ := Lib.hid hZs
  clear hZs
  have B0 := Lib.hid (Blk.new w 130 Zs.toArray)
  have b0 := below_alloc w (.cells Zs.toArray 130)
  have H0 := Lib.hid (h.below b0)
  have hgw : w.heap.size ∉ F := fun hm => by have := h.under _ hm; omega
  have b0' := Lib.hid b0
  clear h b0
  go_enter Try.func87, Try.ntmps87
  go_wp2_with fail
  have hBw : base ≤ (w.alloc (.cells Zs.toArray 130)).heap.size := Nat.le_trans hB b0'.out.size
  generalize w.alloc (.cells Zs.toArray 130) = w0 at *
  generalize hgb : w.heap.size = gb at *
  refine any_begin (by kernel_rfl) ?_
  refine wpAny_take (i := 0) (v := .slice (some ⟨gb, 0, none⟩) 1 1) rfl (by kernel_rfl) (by kernel_rfl) (by kernel_rfl) (fun _ _ _ h => h) (Or.inl ⟨by rfl, fun w => by go_simp⟩) ?_
  simp only [Act.put, List.getElem_toArray, List.getElem_cons_succ, List.getElem_cons_zero, List.setIfInBounds_toArray, List.set_cons_zero, List.set_cons_succ]
  refine wpAny_take (i := 1) (v := .pointer p) rfl (by kernel_rfl) (by kernel_rfl) (by kernel_rfl) (fun _ _ _ h => h) (Or.inl ⟨by rfl, fun w => by kernel_rfl⟩) ?_
  simp only [Act.put, List.getElem_toArray, List.getElem_cons_succ, List.getElem_cons_zero, List.setIfInBounds_toArray, List.set_cons_zero, List.set_cons_succ]
  refine do_one (i := 2) (by kernel_rfl) rfl (by rfl) ?_
  simp only [Act.put, List.getElem_toArray, List.getElem_cons_succ, List.getElem_cons_zero, List.setIfInBounds_toArray, List.set_cons_zero, List.set_cons_succ]
  refine wp_called (by kernel_rfl) (take_any w0.drew base F p s 1 (H0.out.of (Nat.le_refl _) (fun _ _ => rfl)) (by omega) (by omega)) ?_
  rintro e w1 ⟨A, c, rfl, ⟨F1, r1, o1, f1⟩, ⟨B, hb⟩, -, -⟩
  refine ⟨_, rfl, ?_⟩
  simp only [Act.put, List.getElem_toArray, List.getElem_cons_succ, List.getElem_cons_zero, List.setIfInBounds_toArray, List.set_cons_zero, List.set_cons_succ]
  have B1 : Blk w1 gb 130 Zs.toArray := B0.out.of (o1.block gb B0.out.lt hgw)
  refine do_one (i := 3) (by kernel_rfl) rfl (by rfl) ?_
  simp only [Act.put, List.getElem_toArray, List.getElem_cons_succ, List.getElem_cons_zero, List.setIfInBounds_toArray, List.set_cons_zero, List.set_cons_succ]
  refine wp_copy_full (.tmp 4) (.tmp 6) rfl gb 1 130 Zs B1 hzl (by rfl) A _ c B _ (by rfl) hb (got_len s 1) (by omega) ?_
  intro w2 B2 o2
  simp only [Act.put, List.getElem_toArray, List.getElem_cons_succ, List.getElem_cons_zero, List.setIfInBounds_toArray, List.set_cons_zero, List.set_cons_succ]
  refine wpAny_done (by kernel_rfl) ?_ _
  refine NoPanic.normal ?_
  have hpad : (if (s.got 1).length = 0 then Zs else u8s (s.got 1)) = u8s (padded 1 (s.got 1)) := by
    unfold padded
    rw [HZ.out]
    split
    · rfl
    · rfl
  rw [hpad] at B2
  have R2 : RTo w base F p (s.take 1) w2 := by
    have hf : Fresh w F F1 := fun k hk => (f1 k hk).imp id (fun h => Nat.le_trans (show w.heap.size ≤ w0.drew.heap.size from b0'.out.size) h)
    refine ⟨F1, r1.of o2.size (fun k hk => o2.block k (r1.under k hk) (fun hm => ?_)), ((Only.of_below (w' := w0.drew) (by rw [hgb]; exact b0'.out.drew) F).trans (F' := F) o1 (Fresh.refl _ _)).trans o2 (fun k hk => .inr (by simp at hk; omega)), hf⟩
    simp at hm
    subst hm
    rcases f1 _ hk with h | h
    · exact hgw h
    · have : k < w0.heap.size := B0.out.lt
      have h' : w0.heap.size ≤ k := h
      omega
  have hcell : w2.cell? ⟨gb, 0, none⟩ = some (.int .u8 s.byte) := by
    rw [B2.cell]
    unfold RD.byte padded
    cases hg : s.got 1 with
    | nil => rfl
    | cons b l => rfl
  have HR := Lib.hid R2
  clear hpad R2 B2 o2 hb B1 r1 o1 f1
  go_wp2
  go_ret
  exact ⟨rfl, HR.out⟩
theorem rflag_any (w : World) (base : Nat) (F : List Nat) (p : Option Addr) (s : RD) (h : Rd w base F p s) (hB : base ≤ w.heap.size) :
    Calls Try.prog 54 #[.pointer p] w fun e w' => e = .returned (.bool s.flag) ∧ RTo w base F p s.flagTo w' := by
  have hby := RD.byte_lt h.good
  have hfl : ((s.byte : Int) == 1) = s.flag := by unfold RD.flag; rw [Bool.eq_iff_iff, beq_iff_eq, beq_iff_eq]; omega
  by_cases h1 : 1 < s.byte
  · have hd : decide (1 < (s.byte : Int)) = true := by simp; omega
    have hto : s.flagTo = RD.spoilt := by unfold RD.flagTo; rw [if_pos h1]
    rw [hto]
    go_enter Try.func54, Try.ntmps54
    go_wp2_with fail
    refine (rbyte_any w base F p s h hB).mono ?_
    rintro e w1 ⟨rfl, F1, r1, o1, f1⟩
    go_wp2_with fail
    refine (spoil_any w1 base F1 p _ r1).mono ?_
    rintro e w2 ⟨rfl, r2⟩
    go_wp2
    go_ret
    exact ⟨rfl, r2.after o1 f1⟩
  · have hd : decide (1 < (s.byte : Int)) = false := by simp; omega
    have hto : s.flagTo = s.take 1 := by unfold RD.flagTo; rw [if_neg h1]
    rw [hto]
    go_enter Try.func54, Try.ntmps54
    go_wp2_with fail
    refine (rbyte_any w base F p s h hB).mono ?_
    rintro e w1 ⟨rfl, r1⟩
    go_wp2
    go_ret
    exact ⟨rfl, r1⟩
theorem num_range (s : RD) : -9223372036854775808 ≤ s.num ∧ s.num ≤ 9223372036854775807 := numOf_range _
theorem RD.got_le (s : RD) (n : Int) : (s.got n).length ≤ s.bs.length := by
  unfold RD.got
  split
  · rw [List.length_take]; omega
  · simp
theorem RD.take_le (s : RD) (n : Int) : (s.take n).bs.length ≤ s.bs.length := by
  unfold RD.take
  split
  · simp
  · simp [RD.spoilt]
theorem rbytes_any (w : World) (base : Nat) (F : List Nat) (p : Option Addr) (s : RD) (h : Rd w base F p s) (hB : base ≤ w.heap.size) (hs : s.bs.length ≤ 9000000) :
    Calls Try.prog 55 #[.pointer p] w fun e w' => ∃ v F', e = .returned v ∧ Own w' w.heap.size v s.bytes.length s.bytes ∧ Rd w' base F' p s.bytesTo ∧ Only F w w' ∧ Fresh w F F' ∧ (∀ b ∈ s.bytes, b < 256) ∧ (∀ k, v.ownBlock = some k → k ∉ F') := by
  have hgot : s.bytes.length ≤ 10000000 := by have := RD.got_le (s.take 8) s.num; have := RD.take_le s 8; unfold RD.bytes; omega
  have hlt := RD.got_lt (RD.take_good h.good 8) s.num
  have hFu := h.under
  go_enter Try.func55, Try.ntmps55
  go_wp2_with fail
  refine (rnum_any w base F p s h hB).mono ?_
  rintro e w1 ⟨rfl, F1, r1, o1, f1⟩
  go_wp2_with fail
  refine (take_any w1 base F1 p (s.take 8) s.num r1 (num_range s).1 (num_range s).2).mono ?_
  rintro e w2 ⟨A, c, rfl, r2, ⟨B, hb⟩, -, -⟩
  go_wp2_with fail
  refine (clone_any A _ c s.bytes w2 B hgot hb).mono ?_
  rintro e w3 ⟨v, rfl, h3, b3⟩
  go_wp2
  go_ret
  have R2 := r2.after o1 f1
  obtain ⟨F3, q1, q2, q3⟩ := R2
  have hq2 : Only F w w2 := q2
  refine ⟨v, F3, rfl, h3.weaken q2.size, q1.below b3, q2.trans (Only.of_below b3 F3) q3, q3, hlt, fun k hk hm => ?_⟩
  have h4 := (World.ownsRow.lt h3 k hk).1
  have h5 := q1.under k hm
  omega
theorem newr_any (A : Option Addr) (n c : Nat) (bs : List Nat) (w : World) (B : Nat) (hn : n ≤ 9000000) (hb : Bytes w B A n bs) :
    Calls Try.prog 53 #[.slice A n c] w fun e w' => ∃ g F, e = .returned (.pointer (some ⟨g, 0, none⟩)) ∧ Rd w' w.heap.size F (some ⟨g, 0, none⟩) ⟨bs, false⟩ ∧ Below w.heap.size w w' := by
  go_enter Try.func53, Try.ntmps53
  go_wp2_with fail
  refine (clone_any A n c bs w B (by omega) hb).mono ?_
  rintro e w1 ⟨v, rfl, h1, b1⟩
  obtain ⟨A1, c1, rfl, hc1, hc2, hA1⟩ := h1.form
  go_wp2
  go_ret
  have hl := hb.len
  subst hl
  refine ⟨w1.heap.size, w1.heap.size :: (A1.map Addr.block).toList, rfl, .inr ⟨_, rfl, A1, c1, rfl, Blk.new _ _ _, ?_, hc1, hc2, b1.size, fun a ha => ?_, ⟨fun e => (by cases e), hb.2⟩⟩, b1.alloc b1.size _⟩
  · exact ((h1.bytes hb.2).since (below_alloc _ _)).more (by simp)
  · rcases hA1 with ⟨rfl, -⟩ | ⟨g, rfl, hg1, hg2⟩
    · cases ha
    · injection ha with ha
      subst ha
      exact ⟨hg1, Nat.lt_of_lt_of_le hg2 (by simp), Nat.ne_of_lt hg2⟩
end Go.Proofs.Yteghbfkkpnlilaa

/-
  What the program's reader reads as numbers. Conditions: the reader lies where it is said to; it has no more than nine million bytes.
-/
namespace Go.Proofs.Yteghbfkkpnlilaa
open Go.RowKit
set_option linter.unusedSimpArgs false
set_option maxRecDepth 100000
set_option linter.unusedVariables false
theorem made_same (m k : Nat) (v : Value) (hm : 0 < m) : madeCells (List.replicate m v).toArray k = (List.replicate k v).toArray := by
  unfold madeCells
  apply Array.ext
  · simp
  · intro i h1 h2
    have h3 : i % m < m := Nat.mod_lt _ hm
    have h4 : i % (List.replicate m v).toArray.size < (List.replicate m v).toArray.size := by simpa using h3
    rw [Array.getElem_map, Array.getElem_range, getElem!_pos (List.replicate m v).toArray (i % (List.replicate m v).toArray.size) h4]
    simp
theorem int_info : (Try.prog.info? 3).map (fun i => (i.zero, i.size, i.bytes)) = some (some (.int .i64 0), 1, 8) := by kernel_rfl
theorem make_ints (q : Nat) (hq : q ≤ 9000000) (w : World) : (Instr.makeSlice 26 (.int .i64 q) (.int .i64 q)).run Try.prog w = .ok (.slice (some ⟨w.heap.size, 0, none⟩) q q) (w.alloc (.cells (List.replicate q (Value.int .i64 0)).toArray 3)) := by
  obtain ⟨i0, hi0, hz0, hz1, hz2⟩ := info_parts int_info
  have := run_make (P := Try.prog) w 26 3 i0 (.int .i64 0) Try.underlying26 hi0 hz0 .i64 .i64 q q (by omega) (by omega) (by rw [hz2]; omega) (by omega)
  rw [hz1] at this
  simp only [Int.toNat_natCast, Nat.mul_one] at this
  rw [this]
  have e : (Value.int .i64 0).cells = (List.replicate 1 (Value.int .i64 0)).toArray := rfl
  rw [e, made_same 1 q _ (by omega)]
def OwnI (w : World) (base : Nat) (v : Value) (n : Nat) (l : List Int) : Prop := w.ownsRow base 3 1 v n (i64s l)
theorem OwnI.ints {w : World} {base n c : Nat} {A : Option Addr} {l : List Int} (h : OwnI w base (.slice A n c) n l) : Ints w w.heap.size A n l := Reads.of_own h
theorem OwnI.weaken {w : World} {base base' n : Nat} {v : Value} {l : List Int} (h : OwnI w base v n l) (hb : base' ≤ base) : OwnI w base' v n l := row_weaken h hb
theorem OwnI.form {w : World} {base : Nat} {v : Value} {n : Nat} {l : List Int} (h : OwnI w base v n l) : ∃ (A : Option Addr) (cap : Nat), v = .slice A n cap ∧ ∀ a, A = some a → base ≤ a.block := by
  rcases h.2 with ⟨rfl, hx⟩ | ⟨g, cap, cur, rfl, hbg, hg, hnc, hcm, hcs, hpre⟩
  · have : n = 0 := by have := h.1; rw [hx] at this; simp at this; omega
    subst this
    exact ⟨none, 0, rfl, fun a ha => by cases ha⟩
  · exact ⟨some ⟨g, 0, none⟩, cap, rfl, fun a ha => by injection ha with ha; subst ha; exact hbg⟩
theorem OwnI.of_blk {w : World} {base g n : Nat} {l : List Int} (h : Blk w g 3 (i64s l).toArray) (hl : l.length = n) (hb : base ≤ g) (hn : n ≤ 9000000) : OwnI w base (.slice (some ⟨g, 0, none⟩) n n) n l :=
  ⟨by rw [i64s_length]; omega, .inr ⟨g, n, _, rfl, hb, h, Nat.le_refl _, by simp [maxLen]; omega, by simp [i64s_length, hl], by rw [List.take_of_length_le (by simp [i64s_length, hl])]⟩⟩
def filling (l : List Int) (q : Nat) : List Value := i64s l ++ List.replicate (q - l.length) (.int .i64 0)
theorem filling_set (l : List Int) (q : Nat) (x : Int) (h : l.length < q) : (filling l q).toArray.setIfInBounds l.length (.int .i64 x) = (filling (l ++ [x]) q).toArray := by
  unfold filling
  have e : q - l.length = (q - (l ++ [x]).length) + 1 := by simp; omega
  rw [e, List.replicate_succ]
  simp only [List.setIfInBounds_toArray]
  congr 1
  rw [List.set_append_right _ _ (by rw [i64s_length]; exact Nat.le_refl _), i64s_length, Nat.sub_self, List.set_cons_zero]
  simp [i64s]
theorem filling_cell (l : List Int) (q : Nat) (h : l.length < q) : (filling l q).toArray[l.length]? = some (.int .i64 0) := by
  unfold filling
  rw [List.getElem?_toArray, List.getElem?_append_right (by rw [i64s_length]; exact Nat.le_refl _), i64s_length, Nat.sub_self, List.getElem?_replicate, if_pos (by omega)]
end Go.Proofs.Yteghbfkkpnlilaa

/-
  Objects with clones that are a call's own: their rows, how a row of clones grows, copies of numbers and of rows of clones. No condition but the sizes.
-/
namespace Go.Proofs.Yteghbfkkpnlilaa
open Go.RowKit
set_option linter.unusedSimpArgs false
set_option linter.unusedVariables false
set_option maxRecDepth 100000
theorem own_ty {W : World} {base size n : Nat} {e : TypeId} {v : Value} {xs : List Value} (h : W.ownsRow base e size v n xs) {k : Nat} (hk : k ∈ rowOf v) : ∃ cs, Blk W k e cs := by
  rcases h.2 with ⟨rfl, _⟩ | ⟨g, c, cur, rfl, hb, hh, _⟩
  · simp [rowOf, Value.ownBlock] at hk
  · simp [rowOf, Value.ownBlock] at hk
    subst hk
    exact ⟨cur, hh⟩
theorem row_slice (A : Option Addr) (n c n' c' : Nat) : rowOf (.slice A n c) = rowOf (.slice A n' c') := by cases A <;> rfl
theorem own_shape {W : World} {base size n m c : Nat} {e : TypeId} {A : Option Addr} {xs : List Value} (h : W.ownsRow base e size (.slice A m c) n xs) : m = n ∧ n ≤ c ∧ c ≤ maxLen ∧ (A = none ∨ ∃ b, A = some ⟨b, 0, none⟩ ∧ base ≤ b ∧ b < W.heap.size) := by
  rcases h.2 with ⟨e, h0⟩ | ⟨b, cap, cur, e, hb, hh, h1, h2, _⟩
  · injection e with e1 e2 e3
    subst e1 e2 e3 h0
    exact ⟨rfl, Nat.le_refl _, by simp [maxLen], .inl rfl⟩
  · injection e with e1 e2 e3
    subst e1 e2 e3
    exact ⟨rfl, h1, h2, .inr ⟨b, rfl, hb, (show Blk W b e cur from hh).lt⟩⟩
theorem OwnI.below {w w' : World} {base n : Nat} {v : Value} {l : List Int} (h : OwnI w base v n l) (hb : Below w.heap.size w w') : OwnI w' base v n l := row_of h fun k hk => hb.block k (row_under h k hk)
theorem OwnI.form2 {w : World} {base n : Nat} {v : Value} {l : List Int} (h : OwnI w base v n l) : ∃ (A : Option Addr) (cap : Nat), v = .slice A n cap := by
  rcases h.2 with ⟨rfl, h0⟩ | ⟨g, cap, cur, rfl, _⟩
  · exact ⟨none, 0, by rw [h0]⟩
  · exact ⟨_, cap, rfl⟩
theorem i64s_one (l : List Int) : ∀ u ∈ i64s l, u.oneCell' = true := by
  intro u hu
  obtain ⟨b, _, rfl⟩ := List.mem_map.1 hu
  rfl
theorem i64s_app (a b : List Int) : i64s (a ++ b) = i64s a ++ i64s b := by simp [i64s]
theorem app_ints {w : World} {ops : Array Oper} {rest : List Oper} {o : Oper} {a : Act} {Q : Exit → Act → World → Prop} (s x : Operand)
    (hgd : o.guard = none) (ho : o.op = .call { callee := .builtin .append, args := #[s, x], argTypes := #[26, 26] })
    (base : Nat) (v : Value) (n : Nat) (l : List Int) (hs : a.eval s = v) (hown : OwnI w base v n l)
    (B : Nat) (A : Option Addr) (m c : Nat) (news : List Int) (hx : a.eval x = .slice A m c) (hr : Ints w B A m news)
    (hsz : n + m ≤ 10000000) (hbase : base ≤ w.heap.size)
    (h : ∀ v' w', OwnI w' base v' (n + m) (l ++ news) → w.grownBy w' v.ownBlock → (v'.ownBlock = v.ownBlock ∨ v'.ownBlock = some w.heap.size) → wpList Try.prog ops Q rest (a.put o.dst v') w') :
    wpList Try.prog ops Q (o :: rest) a w := by
  obtain ⟨i0, hi0, hz0, hz1, hz2⟩ := info_parts int_info
  refine wpList_append_any w hgd s x _ ho base 3 i0 _ 1 8 Try.underlying26 hi0 hz0 hz1 hz2 rfl (by omega) v n (i64s l) hs hown B A m c (i64s news) hx hr (i64s_one _) (by simp only [maxLen]; omega) (by omega) hbase ?_
  intro v' w' h1 h2 h3
  exact h v' w' (by unfold OwnI; rw [i64s_app]; exact h1) h2 h3
theorem OwnI.new0 (w : World) (base : Nat) (hb : base ≤ w.heap.size) : OwnI (w.alloc (.cells #[] 3)) base (.slice (some ⟨w.heap.size, 0, none⟩) 0 0) 0 [] := by
  have := World.ownsRow_made (base := base) (e := 3) (size := 1) w #[] 0 hb (by simp [maxLen]) (by simp)
  simpa [OwnI, i64s] using this
theorem OwnI.nil (w : World) (base : Nat) : OwnI w base (.slice none 0 0) 0 [] := World.ownsRow_nil w base _ 1
theorem iclone_any {w : World} {B c : Nat} {A : Option Addr} {l : List Int} (hl : l.length ≤ 1000000) (hR : Ints w B A l.length l) :
    Calls Try.prog 97 #[.slice A l.length c] w fun e w' => ∃ A2 c2, e = .returned (.slice A2 l.length c2) ∧ OwnI w' w.heap.size (.slice A2 l.length c2) l.length l ∧ Below w.heap.size w w' := by
  have qT : ∀ (w : World) (a : Option Addr) (n c n' c' : Nat), (binOp .eql 26 (.slice a n c) (.slice none n' c')).run Try.prog w = .ok (.bool a.isNone) w := fun w a n c n' c' => Lib.run_eql_slice_nil w _ _ a n c n' c' Try.underlying26
  rcases A with _ | ad
  · have h0 : l = [] := by
      rcases Nat.eq_zero_or_pos l.length with h | h
      · exact List.eq_nil_of_length_eq_zero h
      · obtain ⟨ad, e, _⟩ := hR.2 h
        cases e
    subst h0
    have qn := fun (w : World) (n c n' c' : Nat) => qT w none n c n' c'
    simp only [Option.isNone_none] at qn
    clear qT
    go_enter Try.func97, Try.ntmps97
    go_wp2
    go_ret
    exact ⟨none, 0, rfl, OwnI.nil _ _, Below.refl _ _⟩
  · have qn := fun (w : World) (n c n' c' : Nat) => qT w (some ad) n c n' c'
    simp only [Option.isNone_some] at qn
    clear qT
    have h1 : Ints (w.alloc (.cells #[] 3)) B (some ad) l.length l := hR.since (below_alloc w _)
    have h0 := OwnI.new0 w w.heap.size (Nat.le_refl _)
    generalize hn : l.length = n at *
    go_enter Try.func97, Try.ntmps97
    go_wp2_with (refine app_ints (.tmp 5) (.tmp 6) rfl rfl w.heap.size (.slice (some ⟨w.heap.size, 0, none⟩) 0 0) 0 [] rfl h0 B (some ad) n c l rfl h1 (by omega) (by simp) ?_
                 intro v2 w2 h2 g2 a2)
    go_ret
    rw [Nat.zero_add, List.nil_append] at h2
    obtain ⟨A2, c2, rfl⟩ := h2.form2
    exact ⟨A2, c2, rfl, h2, (below_alloc w _).grown g2 (by simp) (fun k hk => by simp [Value.ownBlock] at hk; omega)⟩
/-! ### rows of clones -/
def OwnC (t : TypeId) (w : World) (base : Nat) (v : Value) (cl : List CA) : Prop := w.ownsRow base t 2 v cl.length (cl.flatMap CA.cells)
theorem cells_one (cl : List CA) : ∀ u ∈ cl.flatMap CA.cells, u.oneCell' = true := by
  intro u hu
  obtain ⟨c, _, hc⟩ := List.mem_flatMap.1 hu
  exact c.cells_one u hc
theorem OwnC.nil (t : TypeId) (w : World) (base : Nat) : OwnC t w base (.slice none 0 0) [] := World.ownsRow_nil w base _ 2
theorem OwnC.new0 (t : TypeId) (w : World) (base : Nat) (hb : base ≤ w.heap.size) : OwnC t (w.alloc (.cells #[] t)) base (.slice (some ⟨w.heap.size, 0, none⟩) 0 0) [] := by
  have := World.ownsRow_made (base := base) (e := t) (size := 2) w #[] 0 hb (by simp [maxLen]) (by simp)
  simpa [OwnC] using this
theorem OwnC.form {t : TypeId} {w : World} {base : Nat} {v : Value} {cl : List CA} (h : OwnC t w base v cl) : ∃ (A : Option Addr) (cap : Nat), v = .slice A cl.length cap := by
  rcases h.2 with ⟨rfl, h0⟩ | ⟨g, cap, cur, rfl, _⟩
  · exact ⟨none, 0, by rw [h0]⟩
  · exact ⟨_, cap, rfl⟩
theorem OwnC.below {t : TypeId} {w w' : World} {base : Nat} {v : Value} {cl : List CA} (h : OwnC t w base v cl) (hb : Below w.heap.size w w') : OwnC t w' base v cl := row_of h fun k hk => hb.block k (row_under h k hk)
theorem flat_set : ∀ (L : List CA) (k : Nat) (c : CA), k < L.length → ((L.flatMap CA.cells).set (k * 2) (.slice c.S c.sn.length c.cs)).set (k * 2 + 1) (.slice c.D c.dt.length c.cd) = (L.set k c).flatMap CA.cells
  | [], k, c, h => by simp at h
  | x :: L, 0, c, h => by simp [CA.cells]
  | x :: L, k + 1, c, h => by
    have ih := flat_set L k c (by simpa using h)
    rw [List.set_cons_succ, List.flatMap_cons, List.flatMap_cons, ← ih]
    have e1 : (k + 1) * 2 = x.cells.length + k * 2 := by rw [CA.cells_len]; omega
    rw [e1, List.set_append_right _ _ (by omega), show x.cells.length + k * 2 - x.cells.length = k * 2 by omega, List.set_append_right _ _ (by omega), show x.cells.length + k * 2 + 1 - x.cells.length = k * 2 + 1 by omega]
theorem OwnC.set {t : TypeId} {w : World} {base r n cap : Nat} {cl : List CA} (h : OwnC t w base (.slice (some ⟨r, 0, none⟩) n cap) cl) {k : Nat} (hk : k < cl.length) (c : CA) :
    OwnC t (w.setCells r (k * 2) c.cells) base (.slice (some ⟨r, 0, none⟩) n cap) (cl.set k c) ∧ w.grownBy (w.setCells r (k * 2) c.cells) (some r) ∧ (w.setCells r (k * 2) c.cells).heap.size = w.heap.size := by
  obtain ⟨rfl, -⟩ := own_shape h
  refine ⟨?_, (setCells_grown r c.cells (k * 2) w).1, (setCells_grown r c.cells (k * 2) w).2⟩
  have h1 := (World.ownsRow.stored h (k * 2) (.slice c.S c.sn.length c.cs)).1
  have h2 := (World.ownsRow.stored h1 (k * 2 + 1) (.slice c.D c.dt.length c.cd)).1
  rw [flat_set cl k c hk] at h2
  simpa [OwnC, CA.cells, World.setCells] using h2
theorem scl_info : (Try.prog.info? 79).map (fun i => (i.zero, i.size, i.bytes)) = some (some (.agg #[.slice none 0 0, .slice none 0 0]), 2, 48) := by kernel_rfl
theorem app_scl {w : World} {ops : Array Oper} {rest : List Oper} {o : Oper} {a : Act} {Q : Exit → Act → World → Prop} (s x : Operand)
    (hgd : o.guard = none) (ho : o.op = .call { callee := .builtin .append, args := #[s, x], argTypes := #[34, 34] })
    (base : Nat) (v : Value) (cl : List CA) (hs : a.eval s = v) (hown : OwnC 79 w base v cl)
    (B : Nat) (A : Option Addr) (m c : Nat) (news : List CA) (hx : a.eval x = .slice A m c) (hm : m = news.length) (hr : Reads w B 2 A news.length (news.flatMap CA.cells))
    (hsz : cl.length + m ≤ 10000000) (hbase : base ≤ w.heap.size)
    (h : ∀ v' w', OwnC 79 w' base v' (cl ++ news) → w.grownBy w' v.ownBlock → (v'.ownBlock = v.ownBlock ∨ v'.ownBlock = some w.heap.size) → wpList Try.prog ops Q rest (a.put o.dst v') w') :
    wpList Try.prog ops Q (o :: rest) a w := by
  subst hm
  obtain ⟨i0, hi0, hz0, hz1, hz2⟩ := info_parts scl_info
  refine wpList_append_any w hgd s x _ ho base 79 i0 _ 2 48 Try.underlying34 hi0 hz0 hz1 hz2 rfl (by omega) v cl.length (cl.flatMap CA.cells) hs hown B A news.length c (news.flatMap CA.cells) hx hr (cells_one _) (by simp only [maxLen]; omega) (by omega) hbase ?_
  intro v' w' h1 h2 h3
  exact h v' w' (by unfold OwnC; rw [List.flatMap_append, List.length_append]; exact h1) h2 h3
theorem build_scl (c : CA) (w : World) : (Instr.buildSlice 34 1 #[(0, .agg #[.slice c.S c.sn.length c.cs, .slice c.D c.dt.length c.cd])]).run Try.prog w = .ok (.slice (some ⟨w.heap.size, 0, none⟩) 1 1) (w.alloc (.cells c.cells.toArray 79)) :=
  run_buildSlice_one (size := 2) Try.underlying34 (by kernel_rfl) (by omega) (by omega) rfl w
theorem rcl_info : (Try.prog.info? 78).map (fun i => (i.zero, i.size, i.bytes)) = some (some (.agg #[.slice none 0 0, .slice none 0 0]), 2, 48) := by kernel_rfl
theorem app_rcl {w : World} {ops : Array Oper} {rest : List Oper} {o : Oper} {a : Act} {Q : Exit → Act → World → Prop} (s x : Operand)
    (hgd : o.guard = none) (ho : o.op = .call { callee := .builtin .append, args := #[s, x], argTypes := #[23, 23] })
    (base : Nat) (v : Value) (cl : List CA) (hs : a.eval s = v) (hown : OwnC 78 w base v cl)
    (B : Nat) (A : Option Addr) (m c : Nat) (news : List CA) (hx : a.eval x = .slice A m c) (hm : m = news.length) (hr : Reads w B 2 A news.length (news.flatMap CA.cells))
    (hsz : cl.length + m ≤ 10000000) (hbase : base ≤ w.heap.size)
    (h : ∀ v' w', OwnC 78 w' base v' (cl ++ news) → w.grownBy w' v.ownBlock → (v'.ownBlock = v.ownBlock ∨ v'.ownBlock = some w.heap.size) → wpList Try.prog ops Q rest (a.put o.dst v') w') :
    wpList Try.prog ops Q (o :: rest) a w := by
  subst hm
  obtain ⟨i0, hi0, hz0, hz1, hz2⟩ := info_parts rcl_info
  refine wpList_append_any w hgd s x _ ho base 78 i0 _ 2 48 Try.underlying23 hi0 hz0 hz1 hz2 rfl (by omega) v cl.length (cl.flatMap CA.cells) hs hown B A news.length c (news.flatMap CA.cells) hx hr (cells_one _) (by simp only [maxLen]; omega) (by omega) hbase ?_
  intro v' w' h1 h2 h3
  exact h v' w' (by unfold OwnC; rw [List.flatMap_append, List.length_append]; exact h1) h2 h3
theorem build_rcl (c : CA) (w : World) : (Instr.buildSlice 23 1 #[(0, .agg #[.slice c.S c.sn.length c.cs, .slice c.D c.dt.length c.cd])]).run Try.prog w = .ok (.slice (some ⟨w.heap.size, 0, none⟩) 1 1) (w.alloc (.cells c.cells.toArray 78)) :=
  run_buildSlice_one (size := 2) Try.underlying23 (by kernel_rfl) (by omega) (by omega) rfl w
theorem one_cl (w : World) (t : TypeId) (c : CA) : Reads (w.alloc (.cells c.cells.toArray t)) (w.heap.size + 1) 2 (some ⟨w.heap.size, 0, none⟩) 1 ([c].flatMap CA.cells) := by
  have := Reads.newN w c.cells 1 2 t (0, 0) rfl
  simpa using this
theorem cclone_any {w : World} {B c : Nat} {A : Option Addr} {cl : List CA} (hl : cl.length ≤ 1000000) (hR : Reads w B 2 A cl.length (cl.flatMap CA.cells)) :
    Calls Try.prog 96 #[.slice A cl.length c] w fun e w' => ∃ A2 c2, e = .returned (.slice A2 cl.length c2) ∧ OwnC 79 w' w.heap.size (.slice A2 cl.length c2) cl ∧ Below w.heap.size w w' := by
  have qT : ∀ (w : World) (a : Option Addr) (n c n' c' : Nat), (binOp .eql 34 (.slice a n c) (.slice none n' c')).run Try.prog w = .ok (.bool a.isNone) w := fun w a n c n' c' => Lib.run_eql_slice_nil w _ _ a n c n' c' Try.underlying34
  rcases A with _ | ad
  · have h0 : cl = [] := by
      rcases Nat.eq_zero_or_pos cl.length with h | h
      · exact List.eq_nil_of_length_eq_zero h
      · obtain ⟨ad, e, _⟩ := hR.2 h
        cases e
    subst h0
    have qn := fun (w : World) (n c n' c' : Nat) => qT w none n c n' c'
    simp only [Option.isNone_none] at qn
    clear qT
    go_enter Try.func96, Try.ntmps96
    go_wp2
    go_ret
    exact ⟨none, 0, rfl, OwnC.nil _ _ _, Below.refl _ _⟩
  · have qn := fun (w : World) (n c n' c' : Nat) => qT w (some ad) n c n' c'
    simp only [Option.isNone_some] at qn
    clear qT
    have h1 := hR.since (below_alloc w (.cells #[] 79))
    have h0 := OwnC.new0 79 w w.heap.size (Nat.le_refl _)
    obtain ⟨n, hn⟩ : ∃ n, n = cl.length := ⟨_, rfl⟩
    have HN := Lib.hid hn
    rw [← hn]
    clear hn
    go_enter Try.func96, Try.ntmps96
    go_wp2_with (refine app_scl (.tmp 5) (.tmp 6) rfl rfl w.heap.size (.slice (some ⟨w.heap.size, 0, none⟩) 0 0) [] rfl h0 B (some ad) n c cl rfl HN.out h1 (by have := HN.out; simp; omega) (by simp) ?_
                 intro v2 w2 h2 g2 a2)
    go_ret
    rw [List.nil_append] at h2
    obtain ⟨A2, c2, rfl⟩ := h2.form
    rw [HN.out]
    exact ⟨A2, c2, rfl, h2, (below_alloc w _).grown g2 (by simp) (fun k hk => by simp [Value.ownBlock] at hk; omega)⟩
/-! ### objects -/
structure CA.N (c : CA) (w : World) (base : Nat) : Prop where
  sn : OwnI w base (.slice c.S c.sn.length c.cs) c.sn.length c.sn
  dt : Own w base (.slice c.D c.dt.length c.cd) c.dt.length c.dt
  ok : ∀ b ∈ c.dt, b < 256
  i1 : ∀ s ∈ c.sn, -9223372036854775808 ≤ s ∧ s ≤ 9223372036854775807
def CA.sR (c : CA) : List Nat := rowOf (.slice c.S 0 0)
def CA.dR (c : CA) : List Nat := rowOf (.slice c.D 0 0)
def Dis (l : List (List Nat)) : Prop := l.Pairwise fun a b => ∀ k ∈ a, k ∉ b
section
variable {c : CA} {w w' : World} {base base' : Nat}
theorem CA.N.R (h : c.N w base) : c.R w := by
  obtain ⟨-, s1, s2, -⟩ := own_shape h.sn
  obtain ⟨-, d1, d2, -⟩ := own_shape h.dt
  unfold maxLen at s2 d2
  exact ⟨h.sn.ints, h.dt.bytes h.ok, h.i1, by omega, by omega, s1, d1⟩
theorem CA.N.of (h : c.N w base) (hs : ∀ k ∈ c.sR, w'.heap[k]? = w.heap[k]?) (hd : ∀ k ∈ c.dR, w'.heap[k]? = w.heap[k]?) : c.N w' base :=
  ⟨row_of h.sn fun k hk => hs k (by rw [CA.sR, row_slice _ 0 0 c.sn.length c.cs]; exact hk), row_of h.dt fun k hk => hd k (by rw [CA.dR, row_slice _ 0 0 c.dt.length c.cd]; exact hk), h.ok, h.i1⟩
theorem CA.N.sU (h : c.N w base) : ∀ k ∈ c.sR, base ≤ k ∧ k < w.heap.size ∧ ∃ cs, Blk w k 3 cs := fun k hk => by
  rw [CA.sR, row_slice _ 0 0 c.sn.length c.cs] at hk
  exact ⟨row_over h.sn k hk, row_under h.sn k hk, own_ty h.sn hk⟩
theorem CA.N.dU (h : c.N w base) : ∀ k ∈ c.dR, base ≤ k ∧ k < w.heap.size ∧ ∃ cs, Blk w k 5 cs := fun k hk => by
  rw [CA.dR, row_slice _ 0 0 c.dt.length c.cd] at hk
  exact ⟨row_over h.dt k hk, row_under h.dt k hk, own_ty h.dt hk⟩
theorem CA.N.below (h : c.N w base) (hb : Below w.heap.size w w') : c.N w' base := h.of (fun k hk => hb.block k (h.sU k hk).2.1) (fun k hk => hb.block k (h.dU k hk).2.1)
theorem CA.N.weaken (h : c.N w base) (hb : base' ≤ base) : c.N w base' := ⟨h.sn.weaken hb, h.dt.weaken hb, h.ok, h.i1⟩
end
structure OA.P (o : OA) (rest : List CA) (w : World) (base : Nat) : Prop where
  dt : Own w base (.slice o.D o.dt.length o.cd) o.dt.length o.dt
  ok : ∀ b ∈ o.dt, b < 256
  row : OwnC 79 w base (.slice o.C (o.cl ++ rest).length o.cc) (o.cl ++ rest)
  cl : ∀ c ∈ o.cl, c.N w base
  q1 : -9223372036854775808 ≤ o.sq
  q2 : o.sq ≤ 9223372036854775807
  dD : Dis (rowOf (.slice o.D 0 0) :: o.cl.map CA.dR)
  dS : Dis (o.cl.map CA.sR)
def OA.N (o : OA) (w : World) (base : Nat) : Prop := o.P [] w base
section
variable {o : OA} {rest : List CA} {w w' : World} {base base' : Nat}
theorem OA.N.R (h : o.N w base) : o.R w := by
  obtain ⟨-, d1, d2, -⟩ := own_shape h.dt
  have hr := h.row
  rw [List.append_nil] at hr
  obtain ⟨-, c1, c2, -⟩ := own_shape hr
  unfold maxLen at d2 c2
  exact ⟨h.dt.bytes h.ok, Reads.of_own hr, fun c hc => (h.cl c hc).R, h.q1, h.q2, by omega, by omega, d1, c1⟩
theorem OA.P.of (h : o.P rest w base) (hd : ∀ k ∈ rowOf (.slice o.D 0 0), w'.heap[k]? = w.heap[k]?) (hc : ∀ k ∈ rowOf (.slice o.C 0 0), w'.heap[k]? = w.heap[k]?) (hcl : ∀ c ∈ o.cl, (∀ k ∈ c.sR, w'.heap[k]? = w.heap[k]?) ∧ ∀ k ∈ c.dR, w'.heap[k]? = w.heap[k]?) : o.P rest w' base :=
  ⟨row_of h.dt fun k hk => hd k (by rw [row_slice _ 0 0 o.dt.length o.cd]; exact hk), h.ok, row_of h.row fun k hk => hc k (by rw [row_slice _ 0 0 (o.cl ++ rest).length o.cc]; exact hk), fun c hm => (h.cl c hm).of (hcl c hm).1 (hcl c hm).2, h.q1, h.q2, h.dD, h.dS⟩
theorem OA.P.dU (h : o.P rest w base) : ∀ k ∈ rowOf (.slice o.D 0 0), base ≤ k ∧ k < w.heap.size ∧ ∃ cs, Blk w k 5 cs := fun k hk => by
  rw [row_slice _ 0 0 o.dt.length o.cd] at hk
  exact ⟨row_over h.dt k hk, row_under h.dt k hk, own_ty h.dt hk⟩
theorem OA.P.cU (h : o.P rest w base) : ∀ k ∈ rowOf (.slice o.C 0 0), base ≤ k ∧ k < w.heap.size ∧ ∃ cs, Blk w k 79 cs := fun k hk => by
  rw [row_slice _ 0 0 (o.cl ++ rest).length o.cc] at hk
  exact ⟨row_over h.row k hk, row_under h.row k hk, own_ty h.row hk⟩
theorem OA.P.below (h : o.P rest w base) (hb : Below w.heap.size w w') : o.P rest w' base :=
  h.of (fun k hk => hb.block k (h.dU k hk).2.1) (fun k hk => hb.block k (h.cU k hk).2.1) fun c hc => ⟨fun k hk => hb.block k ((h.cl c hc).sU k hk).2.1, fun k hk => hb.block k ((h.cl c hc).dU k hk).2.1⟩
theorem OA.P.weaken (h : o.P rest w base) (hb : base' ≤ base) : o.P rest w base' := ⟨h.dt.weaken hb, h.ok, row_weaken h.row hb, fun c hc => (h.cl c hc).weaken hb, h.q1, h.q2, h.dD, h.dS⟩
theorem OA.N.below (h : o.N w base) (hb : Below w.heap.size w w') : o.N w' base := OA.P.below h hb
theorem OA.N.weaken (h : o.N w base) (hb : base' ≤ base) : o.N w base' := OA.P.weaken h hb
theorem OA.P.typed (h : o.P rest w base) (hk : ∀ k t cs, Blk w k t cs → t = 5 ∨ t = 3 ∨ t = 79 → w'.heap[k]? = w.heap[k]?) : o.P rest w' base :=
  h.of (fun k hm => by obtain ⟨_, _, cs, hb⟩ := h.dU k hm; exact hk k _ cs hb (.inl rfl)) (fun k hm => by obtain ⟨_, _, cs, hb⟩ := h.cU k hm; exact hk k _ cs hb (.inr (.inr rfl)))
    fun c hc => ⟨fun k hm => by obtain ⟨_, _, cs, hb⟩ := (h.cl c hc).sU k hm; exact hk k _ cs hb (.inr (.inl rfl)), fun k hm => by obtain ⟨_, _, cs, hb⟩ := (h.cl c hc).dU k hm; exact hk k _ cs hb (.inl rfl)⟩
theorem Dis.snoc {l : List (List Nat)} {x : List Nat} (h : Dis l) (hx : ∀ a ∈ l, ∀ k ∈ a, k ∉ x) : Dis (l ++ [x]) := by
  unfold Dis
  rw [List.pairwise_append]
  exact ⟨h, List.pairwise_singleton _ _, fun a ha b hb k hk => by simp at hb; subst hb; exact hx a ha k hk⟩
theorem OA.P.step {c0 c : CA} {r : Nat} {w1 : World} (h : o.P (c0 :: rest) w base) (hb : Below w.heap.size w w1) (hc : c.N w1 w.heap.size) (hr : o.C = some ⟨r, 0, none⟩) (hB : base ≤ w.heap.size) :
    OA.P {o with cl := o.cl ++ [c]} rest (w1.setCells r (o.cl.length * 2) c.cells) base := by
  have h1 := h.below hb
  have hrow := h1.row
  rw [hr] at hrow
  have hlen : o.cl.length < (o.cl ++ c0 :: rest).length := by simp
  obtain ⟨hs1, hs2, hs3⟩ := OwnC.set hrow hlen c
  have e1 : (o.cl ++ c0 :: rest).set o.cl.length c = (o.cl ++ [c]) ++ rest := by
    rw [List.set_append_right _ _ (Nat.le_refl _), Nat.sub_self, List.set_cons_zero, List.append_assoc]
    rfl
  rw [e1] at hs1
  have hcr : ∃ cs, Blk w1 r 79 cs := (h1.cU r (by rw [hr]; simp [rowOf, Value.ownBlock])).2.2
  obtain ⟨csr, hcr⟩ := hcr
  have hkeep : ∀ k t cs, Blk w1 k t cs → t = 5 ∨ t = 3 → (w1.setCells r (o.cl.length * 2) c.cells).heap[k]? = w1.heap[k]? := fun k t cs hk ht =>
    hs2.block k hk.lt (fun e => by
      injection e with e
      refine hk.ne_ hcr ?_ e
      rcases ht with rfl | rfl <;> decide)
  have hN : ∀ {c' : CA} {b : Nat}, c'.N w1 b → c'.N (w1.setCells r (o.cl.length * 2) c.cells) b := fun hc' =>
    hc'.of (fun k hm => by obtain ⟨_, _, cs, hb⟩ := hc'.sU k hm; exact hkeep k _ cs hb (.inr rfl)) (fun k hm => by obtain ⟨_, _, cs, hb⟩ := hc'.dU k hm; exact hkeep k _ cs hb (.inl rfl))
  refine ⟨row_of h1.dt fun k hk => by obtain ⟨cs, hb⟩ := own_ty h1.dt hk; exact hkeep k _ cs hb (.inl rfl), h.ok, ?_, fun c' hc' => ?_, h.q1, h.q2, ?_, ?_⟩
  · show OwnC _ _ _ (.slice o.C ((o.cl ++ [c]) ++ rest).length o.cc) _
    rw [hr]
    have : ((o.cl ++ [c]) ++ rest).length = (o.cl ++ c0 :: rest).length := by simp
    rw [this]
    exact hs1
  · rcases List.mem_append.1 hc' with hm | hm
    · exact hN (h1.cl c' hm)
    · simp at hm
      subst hm
      exact (hN hc).weaken hB
  · have := h.dD.snoc (x := c.dR) fun a ha k hk hx => by
      have h3 := (hc.dU k hx).1
      rcases List.mem_cons.1 ha with rfl | ha
      · have := (h.dU k hk).2.1; omega
      · obtain ⟨c', hc', rfl⟩ := List.mem_map.1 ha
        have := ((h.cl c' hc').dU k hk).2.1; omega
    simpa using this
  · have := h.dS.snoc (x := c.sR) fun a ha k hk hx => by
      have h3 := (hc.sU k hx).1
      obtain ⟨c', hc', rfl⟩ := List.mem_map.1 ha
      have := ((h.cl c' hc').sU k hk).2.1; omega
    simpa using this
end
end Go.Proofs.Yteghbfkkpnlilaa

/-
  Loads and stores of many cells inside a fence; the fence's own small words. No condition.
-/
namespace Go.Proofs.Yteghbfkkpnlilaa
open Go.RowKit Go.Shelf
section
variable {F : Fence} {nF : Nat} {P : Program} {ops : Array Oper} {rest : List Oper} {o : Oper} {a : Act} {w : World} {Q : Exit → Act → World → Prop}
end
end Go.Proofs.Yteghbfkkpnlilaa

/-
  slices.Backward over numbers: its iterator hands them from the last one on. Conditions: the numbers lie below n₀, and the loop's body keeps what lies there.
-/
namespace Go.Proofs.Yteghbfkkpnlilaa
open Go.RowKit Go.Shelf
attribute [local go_sem] Oper.semAt_some
set_option linter.unusedSimpArgs false
set_option linter.unusedVariables false
def backI (L : List Int) (k : Nat) : List (Nat × Int) := (List.range k).map fun j => (L.length - 1 - j, L[L.length - 1 - j]?.getD 0)
theorem backI_succ (L : List Int) (k : Nat) : backI L (k + 1) = backI L k ++ [(L.length - 1 - k, L[L.length - 1 - k]?.getD 0)] := by simp [backI, List.range_succ]
theorem backI_len (L : List Int) (k : Nat) : (backI L k).length = k := by simp [backI]
theorem backI_map (L : List Int) (k : Nat) (hk : k ≤ L.length) : (backI L k).map (·.2) = L.reverse.take k := by
  apply List.ext_getElem
  · simp [backI]; omega
  · intro j h1 h2
    have hj : j < k := by simp [backI] at h1; exact h1
    simp only [backI, List.map_map, List.getElem_map, List.getElem_range, Function.comp, List.getElem_take, List.getElem_reverse]
    rw [List.getElem?_eq_getElem (by omega)]
    rfl
def KeepsBut (n k0 : Nat) (W W' : World) : Prop := ∀ k, k < n → k ≠ k0 → W'.heap[k]? = W.heap[k]?
theorem KeepsBut.refl (n k0 : Nat) (W : World) : KeepsBut n k0 W W := fun _ _ _ => rfl
theorem KeepsBut.trans {n k0 : Nat} {a b c : World} (h : KeepsBut n k0 a b) (h' : KeepsBut n k0 b c) : KeepsBut n k0 a c := fun k hk hn => (h' k hk hn).trans (h k hk hn)
theorem keepsBut_b {n k0 : Nat} {w : World} (hn : n ≤ w.heap.size) : ∀ (W : World) (l : Nat) (o o' : Obj), w.heap.size ≤ l → W.heap[l]? = some o → o.isCells = false → o.isWalk = false → KeepsBut n k0 W (W.putObj l o') := fun W l o o' hl _ _ _ k hk _ => World.putObj_heap_other (by omega)
def encI (x : Nat × Int) : Array Value := #[.int .i64 (x.1 : Int), .int .i64 x.2]
set_option maxRecDepth 100000 in
set_option maxHeartbeats 2000000 in
theorem backI_in (F : Fence) (n : Nat) (hF : ∀ k, F.fn k) (hro : F.round = none) (hn : 1 ≤ n) (l Bs n₀ k0 : Nat) (A : Option Addr) (cap : Nat) (L : List Int) (hL : L.length ≤ 1000000) (J Jx : List (Nat × Int) → World → Prop)
    (hY : ∀ pre x W, J pre W → pre.length < L.length → YieldAt F (n - 1) Try.prog l (encI x) W fun e W' =>
      (e = .returned (.bool true) ∧ J (pre ++ [x]) W' ∧ KeepsBut n₀ k0 W W') ∨ (e = .returned (.bool false) ∧ Jx (pre ++ [x]) W'))
    (W : World) (hBs : Bs < n₀) (hBk : Bs ≠ k0) (hk0 : k0 ≤ n₀) (hBc : W.cell? ⟨Bs, 0, none⟩ = some (.slice A L.length cap)) (hrow : Ints W k0 A L.length L) (h0 : J [] W) :
    CallsIn F n Try.prog 101 #[.func (.yield l) #[] #[], .pointer (some ⟨Bs, 0, none⟩)] W fun e W' => (∃ v, e = .returned v) ∧
      ((∃ ys, ys = backI L L.length ∧ J ys W') ∨ (∃ pre, (∃ k, k ≤ L.length ∧ pre = backI L k) ∧ Jx pre W')) := by
  refine callsIn_of_wp Try.func101 rfl (hF _) ?_ hro
  simp only [Try.ntmps101, List.size_toArray, List.length_cons, List.length_nil, Nat.reduceAdd, Nat.reduceSub, Array.replicate_succ, Array.replicate_zero, List.push_toArray, List.append_toArray, List.nil_append, List.cons_append]
  have Hrow := Lib.hid hrow
  have HY := Lib.hid hY
  clear hrow hY
  gi_wp2
  gi_loopw [3] (fun i wr => ∃ k : Nat, k ≤ L.length ∧ i = .int .i64 ((L.length : Int) - 1 - k) ∧ J (backI L k) wr ∧ KeepsBut n₀ k0 W wr)
    (fun i _ => (intOf i + 1).toNat)
  case atStart => exact ⟨0, Nat.zero_le _, by simp, h0, KeepsBut.refl _ _ _⟩
  case round =>
    obtain ⟨k, hk, rfl, hJs, hnx⟩ := hrel
    have hc1 : wr.cell? ⟨Bs, 0, none⟩ = some (.slice A L.length cap) := (World.cell?_of_block (hnx Bs hBs hBk)).trans hBc
    by_cases hlt : k < L.length
    · have hrw : Ints wr k0 A L.length L := Reads.keep Hrow.out fun p hp => World.cell?_of_block (hnx p.block (by omega) (by omega))
      obtain ⟨j, hj⟩ : ∃ j : Nat, j = L.length - 1 - k := ⟨_, rfl⟩
      have hji : (L.length : Int) - 1 - k = (j : Int) := by omega
      obtain ⟨ad, x, rfl, hx, hc⟩ := hrw.at_ (show j < L.length by omega)
      have hxx : L[L.length - 1 - k]?.getD 0 = x := by rw [← hj, hx]; rfl
      obtain ⟨fn, tmps, assign, body, hy, hR⟩ := HY.out _ (j, x) wr hJs (by rw [backI_len]; exact hlt)
      have Hs := Lib.hid (show backI L (k + 1) = backI L k ++ [(j, x)] by rw [backI_succ, hxx, hj])
      have hjl : j < L.length := by omega
      have Hj := Lib.hid hj
      have Hji := Lib.hid hji
      clear hxx hx hj hrw
      rw [hji]
      clear hji
      dsimp only [encI] at hy
      gi_wp2
      refine hR.mono ?_
      rintro e W3 (⟨rfl, hJ3, hk3⟩ | ⟨rfl, hJx3⟩)
      · gi_wp2
        go_roundw
        case rel => exact ⟨k + 1, by omega, by have := Hji.out; congr 1; omega, by rw [Hs.out]; exact hJ3, hnx.trans hk3⟩
        case measure => simp [intOf]
      · gi_wp2
        refine bodyPost_ret (results_none rfl _ _ _) rfl ?_
        exact ⟨⟨_, rfl⟩, .inr ⟨_, ⟨k + 1, by omega, Hs.out.symm⟩, hJx3⟩⟩
    · obtain rfl : k = L.length := by omega
      gi_wp2
      go_end0
      exact ⟨⟨_, rfl⟩, .inl ⟨_, rfl, hJs⟩⟩
theorem backwardI_any (a : Option Addr) (len cap : Nat) (w : World) :
    Calls Try.prog 100 #[.slice a len cap] w fun e w' => e = .returned (.func (.func 101) #[] #[.pointer (some ⟨w.heap.size, 0, none⟩)]) ∧ w' = w.alloc (.cells #[.slice a len cap] 26) := by
  go_enter Try.func100, Try.ntmps100
  go_wp2
  go_ret
  exact ⟨rfl, rfl⟩
theorem backI_stops (F : Fence) (n : Nat) (hF : ∀ k, F.fn k) (hro : F.round = none) (hn : 1 ≤ n) (Bs n₀ k0 : Nat) (A : Option Addr) (cap : Nat) (L : List Int) (hL : L.length ≤ 1000000) (w : World) (hBs : Bs < n₀) (hBk : Bs ≠ k0) (hk0 : k0 ≤ n₀) (hn₀ : n₀ ≤ w.heap.size)
    (hc : w.cell? ⟨Bs, 0, none⟩ = some (.slice A L.length cap)) (hrow : Ints w k0 A L.length L) :
    SeqStopsK F n Try.prog 101 #[.pointer (some ⟨Bs, 0, none⟩)] encI (KeepsBut n₀ k0) (fun ys => ys = backI L L.length) (fun pre => ∃ k, k ≤ L.length ∧ pre = backI L k) L.length w := fun l J Jx W hW _ _ hY h0 =>
  backI_in F n hF hro hn l Bs n₀ k0 A cap L hL J Jx hY W hBs hBk hk0 ((hW.cell (p := ⟨Bs, 0, none⟩) (by show Bs < w.heap.size; omega)).trans hc) (Reads.keep hrow fun p hp => hW.cell (by omega)) h0
end Go.Proofs.Yteghbfkkpnlilaa

/-
  Which contexts the program finds good. Conditions: the context reads as it is said to.
-/
namespace Go.Proofs.Yteghbfkkpnlilaa
open Go.RowKit Go.Shelf
attribute [local go_sem] Oper.semAt_some
set_option linter.unusedSimpArgs false
set_option linter.unusedVariables false
set_option maxRecDepth 100000
def CtxTo (w : World) (c : CxV) (e : Ending) (w' : World) : Prop := ∃ b : Bool, e = .returned (.bool b) ∧ (b = true ↔ CxG c) ∧ Below w.heap.size w w'
theorem res_cell (W : World) (fn : Func) (p : Tmp) (t : TypeId) (g : Nat) (v : Value) (tmps : Array Value) (hr : fn.results = #[.cell p t]) (h4 : tmps.getD p undef = .pointer (some ⟨g, 0, none⟩))
    (h : ∀ W : World, W.cell? ⟨g, 0, none⟩ = some v → (loadVar t ⟨g, 0, none⟩).run Try.prog W = .ok v W) (hc : W.cell? ⟨g, 0, none⟩ = some v) : (results fn tmps).run Try.prog W = .ok v W := by
  have hl := h W hc
  have h4' : tmps[p]?.getD undef = .pointer (some ⟨g, 0, none⟩) := by simpa using h4
  unfold results
  rw [hr]
  simp [h4', asAddr, hl]
theorem load_bool (g : Nat) (v : Value) (W : World) (h : W.cell? ⟨g, 0, none⟩ = some v) : (loadVar 4 ⟨g, 0, none⟩).run Try.prog W = .ok v W := by simp [go_sem, h]
def CtxI (sq : Int) (pre : List (Nat × Int)) : Prop := riseB 0 (pre.map (·.2)) = true ∧ ∀ s ∈ pre.map (·.2), s ≤ sq
def CtxX (sq : Int) (pre : List (Nat × Int)) : Prop := ∃ ini x, pre = ini ++ [x] ∧ (x.2 ≤ topI 0 (ini.map (·.2)) ∨ sq < x.2)
theorem CtxTo.no {w w' : World} {c : CxV} (h : ¬ CxG c) (hb : Below w.heap.size w w') : CtxTo w c (.returned (.bool false)) w' := ⟨false, rfl, ⟨fun h => (by cases h), fun g => absurd g h⟩, hb⟩
set_option maxHeartbeats 4000000 in
theorem isctx_in {w : World} (c : XA) (h : c.R w) (n1 : ¬ c.sq < 0) (n2 : ¬ (16 : Int) < (c.sn.length : Int)) : CallsIn Fence.wide 5 Try.prog 94 #[.agg c.cells] w (CtxTo w c.v) := by
  obtain ⟨sq, sn, S, cs⟩ := c
  have hro : Fence.wide.round = none := rfl
  have h1 : 1 ≤ 5 := by omega
  have hq1 := h.q1
  have hq2 := h.q2
  have hs1 := h.s1
  have hs2 := h.s2
  have H := Lib.hid h
  clear h
  dsimp only at hq1 hq2 hs1 hs2 n1 n2
  unfold XA.cells
  dsimp only
  have e1 : decide (sq < 0) = false := decide_eq_false n1
  have e2 : decide ((16 : Int) < (sn.length : Int)) = false := decide_eq_false n2
  refine callsIn_of_wp_marks Try.func94 rfl trivial ?_ hro
  simp only [Try.ntmps94, List.size_toArray, List.length_cons, List.length_nil, Nat.reduceAdd, Nat.reduceSub, Array.replicate_succ, Array.replicate_zero, List.push_toArray, List.append_toArray, List.nil_append, List.cons_append]
  gi_wp2_with (refine ⟨trivial, ?_⟩; gi_at_call 100; refine (callsIn_wide.2 (backwardI_any _ _ _ _)).mono ?_; rintro e w' ⟨rfl, rfl⟩)
  obtain ⟨W0, hW0⟩ : ∃ W0, W0 = ((((w.alloc (.cells #[.int .i64 sq, .slice S sn.length cs] 28)).alloc (.cells #[.bool false] 4)).alloc (.cells #[.int .i64 0] 3)).alloc (.cells #[.slice S sn.length cs] 26)) := ⟨_, rfl⟩
  have hB0 : Below w.heap.size w W0 := by rw [hW0]; exact ((((Below.refl _ w).alloc (Nat.le_refl _) _).alloc (by simp) _).alloc (by simp; omega) _).alloc (by simp; omega) _
  have b0 : Blk W0 w.heap.size 28 #[.int .i64 sq, .slice S sn.length cs] := by rw [hW0]; exact (((Blk.new w _ _).alloc _).alloc _).alloc _
  have b1 : Blk W0 (w.heap.size + 1) 4 #[.bool false] := by
    have := ((Blk.new (w.alloc (.cells #[.int .i64 sq, .slice S sn.length cs] 28)) 4 #[.bool false]).alloc (.cells #[.int .i64 0] 3)).alloc (.cells #[.slice S sn.length cs] 26)
    rw [hW0]
    simpa using this
  have b2 : Blk W0 (w.heap.size + 1 + 1) 3 #[.int .i64 0] := by
    have := (Blk.new ((w.alloc (.cells #[.int .i64 sq, .slice S sn.length cs] 28)).alloc (.cells #[.bool false] 4)) 3 #[.int .i64 0]).alloc (.cells #[.slice S sn.length cs] 26)
    rw [hW0]
    simpa using this
  have b3 : Blk W0 (w.heap.size + 1 + 1 + 1) 26 #[.slice S sn.length cs] := by
    have := Blk.new (((w.alloc (.cells #[.int .i64 sq, .slice S sn.length cs] 28)).alloc (.cells #[.bool false] 4)).alloc (.cells #[.int .i64 0] 3)) 26 #[.slice S sn.length cs]
    rw [hW0]
    simpa using this
  have hsz : W0.heap.size = w.heap.size + 4 := by rw [hW0]; simp
  have hsn : Ints W0 w.heap.size S sn.length sn := Reads.below H.out.sn hB0
  rw [← hW0]
  clear hW0
  have HSN := Lib.hid hsn
  have HS := Lib.hid hsz
  have hrev : (backI sn sn.length).map (·.2) = sn.reverse := by
    rw [backI_map sn sn.length (Nat.le_refl _), List.take_of_length_le (by simp)]
  have HREV := Lib.hid hrev
  clear hrev
  have hpre : ∀ k, k ≤ sn.length → (backI sn k).map (·.2) = sn.reverse.take k := backI_map sn
  have HPRE := Lib.hid hpre
  clear hpre
  have hx3 : ∀ (W : World), Blk W (w.heap.size + 1 + 1 + 1) 26 #[.slice S sn.length cs] → W.cell? ⟨w.heap.size + 1 + 1 + 1, 0, none⟩ = some (.slice S sn.length cs) := fun W h => h.cell 0
  refine wpIn_rangeFunc_ownH hro h1 (gf := 101) (lb := #[.pointer (some ⟨w.heap.size + 1 + 1 + 1, 0, none⟩)]) rfl trivial (enters_of Try.func101 (by kernel_rfl) rfl)
    (backI_stops Fence.wide 4 (fun _ => trivial) hro (by omega) (w.heap.size + 1 + 1 + 1) W0.heap.size (w.heap.size + 1 + 1) S cs sn (by omega) W0 (by omega) (by omega) (by omega) (Nat.le_refl _) (hx3 _ b3) (Ints.more HSN.out (by omega))) (fun h h' => KeepsBut.trans h h') (keepsBut_b (Nat.le_refl _)) (Below.refl _ _) (fun _ => rfl)
    (fun pre W => CtxI sq pre ∧ Blk W w.heap.size 28 #[.int .i64 sq, .slice S sn.length cs] ∧ Blk W (w.heap.size + 1) 4 #[.bool false] ∧ Blk W (w.heap.size + 1 + 1) 3 #[.int .i64 (topI 0 (pre.map (·.2)))] ∧ Below w.heap.size w W)
    (fun c pre W => (c = .ret ∧ CtxX sq pre) ∧ Blk W (w.heap.size + 1) 4 #[.bool false] ∧ Below w.heap.size w W)
    ?own1 ?own2 ⟨⟨rfl, by simp⟩, b0, b1, b2, hB0⟩
    (fun x a' W => a' = { tmps := #[.agg #[.int .i64 sq, .slice S sn.length cs], .pointer (some ⟨w.heap.size, 0, none⟩), .pointer (some ⟨w.heap.size + 1, 0, none⟩), .pointer (some ⟨w.heap.size + 1 + 1, 0, none⟩), undef, .int .i64 x.2, .pointer (some ⟨w.heap.size, 0, none⟩), .int .i64 sq, .bool false, .bool false, .pointer (some ⟨w.heap.size, 1, none⟩), .slice S sn.length cs, .int .i64 sn.length, .bool false, .bool false, .pointer (some ⟨w.heap.size, 1, none⟩), .slice S sn.length cs, .func (.func 101) #[] #[.pointer (some ⟨w.heap.size + 1 + 1 + 1, 0, none⟩)], .int .i64 (x.1 : Int), .int .i64 x.2, undef, undef, undef, undef, undef, undef, undef, undef, undef, undef], defers := [] })
    (fun _ _ => ownFrom_pure _ _) ?assign ?body ?done ?stop
  case own1 =>
    rintro pre W W' row ⟨hp, h0, h1, h2, hb⟩ hg hr
    have hsz := HS.out
    have hne : ∀ k, k < W0.heap.size → some k ≠ row := fun k hk e => by have := (hr _ e.symm).1; omega
    refine ⟨hp, h0.grown hg (hne _ (by omega)), h1.grown hg (hne _ (by omega)), h2.grown hg (hne _ (by omega)), hb.grown hg hb.size (fun k e => by have := (hr _ e).1; omega)⟩
  case own2 =>
    rintro c pre W W' row ⟨hp, h1, hb⟩ hg hr
    have hsz := HS.out
    have hne : ∀ k, k < W0.heap.size → some k ≠ row := fun k hk e => by have := (hr _ e.symm).1; omega
    exact ⟨hp, h1.grown hg (hne _ (by omega)), hb.grown hg hb.size (fun k e => by have := (hr _ e).1; omega)⟩
  case assign =>
    rintro l pre x W K hI hK
    have HK := Lib.hid hK
    have HI := Lib.hid hI
    clear hK hI
    unfold encI
    clear hsz
    gi_wp2
    exact HK.out _ _ (KeepsFrom.refl _ _) (KeepsBut.refl _ _ _) HI.out rfl
  case body =>
    rintro l pre x a' W hl - ⟨⟨hr, hle⟩, b0, b1, b2, hB⟩ rfl hlt
    obtain ⟨T0, hT0⟩ : ∃ T0, T0 = topI 0 (pre.map (·.2)) := ⟨_, rfl⟩
    rw [← hT0] at b2
    obtain ⟨xi, xv⟩ := x
    have c0 : W.cell? ⟨w.heap.size, 0, none⟩ = some (.int .i64 sq) := b0.cell 0
    have c1 : W.cell? ⟨w.heap.size + 1, 0, none⟩ = some (.bool false) := b1.cell 0
    have c2 : W.cell? ⟨w.heap.size + 1 + 1, 0, none⟩ = some (.int .i64 T0) := b2.cell 0
    have f1 : W.frozen? ⟨w.heap.size + 1, 0, none⟩ = false := b1.frozen 0
    have f2 : W.frozen? ⟨w.heap.size + 1 + 1, 0, none⟩ = false := b2.frozen 0
    clear hsz
    have HT := Lib.hid hT0
    have HI := Lib.hid (And.intro hr (And.intro hle (And.intro b0 (And.intro b1 (And.intro b2 hB)))))
    clear hT0 hr hle b0 b1 b2 hB hlt
    have hstop : (xv ≤ T0 ∨ sq < xv) → KeepsFrom W0.heap.size W (W.setCell ⟨w.heap.size + 1, 0, none⟩ (.bool false)) ∧ (CtxX sq (pre ++ [(xi, xv)]) ∧ Blk (W.setCell ⟨w.heap.size + 1, 0, none⟩ (.bool false)) (w.heap.size + 1) 4 #[.bool false] ∧ Below w.heap.size w (W.setCell ⟨w.heap.size + 1, 0, none⟩ (.bool false))) := fun h =>
      ⟨(KeepsOthers.setCell _ _ _).from _, ⟨pre, (xi, xv), rfl, by rw [← HT.out]; exact h⟩, by simpa using HI.out.2.2.2.1.set_ 0 (.bool false), HI.out.2.2.2.2.2.setCell (p := ⟨w.heap.size + 1, 0, none⟩) (by show _ ≤ w.heap.size + 1; omega) _⟩
    have HST := Lib.hid hstop
    clear hstop
    by_cases m1 : xv ≤ T0
    · have d1 : decide (xv ≤ T0) = true := decide_eq_true m1
      gi_wp2
      exact ⟨(HST.out (.inl m1)).1, ⟨rfl, (HST.out (.inl m1)).2.1⟩, (HST.out (.inl m1)).2.2⟩
    have d1 : decide (xv ≤ T0) = false := decide_eq_false m1
    by_cases m2 : sq < xv
    · have d2 : decide (sq < xv) = true := decide_eq_true m2
      gi_wp2
      exact ⟨(HST.out (.inr m2)).1, ⟨rfl, (HST.out (.inr m2)).2.1⟩, (HST.out (.inr m2)).2.2⟩
    have d2 : decide (sq < xv) = false := decide_eq_false m2
    gi_wp2
    have hmap : (pre ++ [(xi, xv)]).map (·.2) = pre.map (·.2) ++ [xv] := by simp
    refine ⟨(KeepsOthers.setCell _ _ _).from _, fun k hk hn => Below.heap_setCell _ _ _ _ hn, ⟨?_, fun s hs => ?_⟩, HI.out.2.2.1.far (by show w.heap.size ≠ w.heap.size + 1 + 1; omega) _, HI.out.2.2.2.1.far (by show w.heap.size + 1 ≠ w.heap.size + 1 + 1; omega) _, ?_, HI.out.2.2.2.2.2.setCell (p := ⟨w.heap.size + 1 + 1, 0, none⟩) (by show _ ≤ w.heap.size + 1 + 1; omega) _⟩
    · rw [hmap, riseB_app, HI.out.1, ← HT.out]
      simp [riseB]
      omega
    · rw [hmap] at hs
      rcases List.mem_append.1 hs with h | h
      · exact HI.out.2.1 s h
      · simp at h; omega
    · rw [hmap, topI_app]
      simpa [topI] using HI.out.2.2.2.2.1.set_ 0 (.int .i64 xv)
  case done =>
    rintro D ys W hD rfl ⟨⟨hr, hle⟩, b0, b1, b2, hB⟩ hK
    have hlen := backI_len sn sn.length
    rw [HREV.out] at hr hle
    have HG : Hid (CxG (XA.v ⟨sq, sn, S, cs⟩)) := Lib.hid (by
      have h5 := (riseB_iff _ _).1 hr
      refine ⟨by simp only [XA.v]; omega, by simp only [XA.v]; omega, h5.1, fun s hs => ⟨h5.2 s (by simpa [XA.v] using hs), hle s (by simpa [XA.v] using hs)⟩⟩)
    have f1 : W.frozen? ⟨w.heap.size + 1, 0, none⟩ = false := b1.frozen 0
    have c1 : W.cell? ⟨w.heap.size + 1, 0, none⟩ = some (.bool false) := b1.cell 0
    have HB := Lib.hid (And.intro b1 (And.intro hB hK))
    have hsz := HS.out
    have hlD : w.heap.size + 1 < D := by omega
    clear hsz
    clear hr hle b0 b1 b2 hB hK hlen
    gi_wp2
    have hK5 : (W.setCell ⟨w.heap.size + 1, 0, none⟩ (.bool true)).heap[D]? = some (.deferred (some [])) := (Below.heap_setCell _ _ _ _ (by show D ≠ w.heap.size + 1; omega)).trans HB.out.2.2
    refine ⟨by simp, .inl ⟨_, _, rfl, run_takeDeferred hK5, ?_⟩⟩
    have hkp := grownBy_putObj' (W.setCell ⟨w.heap.size + 1, 0, none⟩ (.bool true)) D (.deferred none)
    have b5 : Blk (W.setCell ⟨w.heap.size + 1, 0, none⟩ (.bool true)) (w.heap.size + 1) 4 #[.bool true] := by simpa using HB.out.1.set_ 0 (.bool true)
    have b6 := b5.grown hkp (fun e => by injection e with e; omega)
    refine ⟨_, res_cell _ _ 2 4 (w.heap.size + 1) (.bool true) _ rfl rfl (fun W h => load_bool _ _ W h) (b6.cell 0), true, rfl, ⟨fun _ => HG.out, fun _ => rfl⟩, ?_⟩
    exact (HB.out.2.1.setCell (p := ⟨w.heap.size + 1, 0, none⟩) (by show _ ≤ w.heap.size + 1; omega) _).grown hkp (by have := HB.out.2.1.size; simpa using this) (fun k e => by injection e with e; omega)
  case stop =>
    rintro D c pre W hD ⟨k, hk, rfl⟩ ⟨⟨rfl, ini, x, he, hx⟩, b1, hB⟩ hK
    have HN : Hid (¬ CxG (XA.v ⟨sq, sn, S, cs⟩)) := Lib.hid fun g => by
      have h6 := HPRE.out k hk
      rw [he, List.map_append] at h6
      have h7 : riseB 0 sn.reverse = true := (riseB_iff _ _).2 ⟨g.up, fun s hs => (g.lim s (by simpa [XA.v] using hs)).1⟩
      have h8 : sn.reverse = (ini.map (·.2) ++ [x].map (·.2)) ++ sn.reverse.drop k := by rw [h6]; exact (List.take_append_drop k _).symm
      rw [h8, riseB_app, Bool.and_eq_true, riseB_app, Bool.and_eq_true] at h7
      have h9 := h7.1.2
      simp [riseB] at h9
      have hm : x.2 ∈ sn := by
        have : x.2 ∈ sn.reverse := by rw [h8]; simp
        simpa using this
      have := (g.lim x.2 hm).2
      simp only [XA.v] at this
      omega
    have HB := Lib.hid (And.intro b1 (And.intro hB hK))
    have hsz := HS.out
    have hlD : w.heap.size + 1 < D := by omega
    clear hsz he hx b1 hB hK
    gi_wp2
    refine ⟨by simp, .inl ⟨_, _, rfl, run_takeDeferred HB.out.2.2, ?_⟩⟩
    have hkp := grownBy_putObj' W D (.deferred none)
    have b6 := HB.out.1.grown hkp (fun e => by injection e with e; omega)
    refine ⟨_, res_cell _ _ 2 4 (w.heap.size + 1) (.bool false) _ rfl rfl (fun W h => load_bool _ _ W h) (b6.cell 0), ?_⟩
    exact CtxTo.no HN.out (HB.out.2.1.grown hkp HB.out.2.1.size (fun k e => by injection e with e; omega))
set_option maxHeartbeats 4000000 in
theorem isctx_any {w : World} (c : XA) (h : c.R w) : Calls Try.prog 94 #[.agg c.cells] w (CtxTo w c.v) := by
  by_cases n1 : c.sq < 0
  · have HN : Hid (¬ CxG c.v) := Lib.hid fun g => by have := g.sq; simp only [XA.v] at this; omega
    have e1 : decide (c.sq < 0) = true := decide_eq_true n1
    have hB0 : Below w.heap.size w ((w.alloc (.cells #[.int .i64 c.sq, .slice c.S c.sn.length c.cs] 28)).alloc (.cells #[.bool false] 4)) := ((Below.refl _ w).alloc (Nat.le_refl _) _).alloc (by simp) _
    have b1 : Blk ((w.alloc (.cells #[.int .i64 c.sq, .slice c.S c.sn.length c.cs] 28)).alloc (.cells #[.bool false] 4)) (w.heap.size + 1) 4 #[.bool false] := by
      have := Blk.new (w.alloc (.cells #[.int .i64 c.sq, .slice c.S c.sn.length c.cs] 28)) 4 #[.bool false]
      simpa using this
    have HB := Lib.hid (And.intro hB0 b1)
    clear hB0 b1 h
    unfold XA.cells
    go_enter Try.func94, Try.ntmps94
    go_wp2
    exact bodyPost_ret (res_cell _ _ 2 4 (w.heap.size + 1) (.bool false) _ rfl rfl (fun W h => load_bool _ _ W h) (HB.out.2.cell 0)) rfl (CtxTo.no HN.out HB.out.1)
  by_cases n2 : (16 : Int) < (c.sn.length : Int)
  · have HN : Hid (¬ CxG c.v) := Lib.hid fun g => by have := g.sn; simp only [XA.v] at this; omega
    have e1 : decide (c.sq < 0) = false := decide_eq_false n1
    have e2 : decide ((16 : Int) < (c.sn.length : Int)) = true := decide_eq_true n2
    have hB0 : Below w.heap.size w ((w.alloc (.cells #[.int .i64 c.sq, .slice c.S c.sn.length c.cs] 28)).alloc (.cells #[.bool false] 4)) := ((Below.refl _ w).alloc (Nat.le_refl _) _).alloc (by simp) _
    have b1 : Blk ((w.alloc (.cells #[.int .i64 c.sq, .slice c.S c.sn.length c.cs] 28)).alloc (.cells #[.bool false] 4)) (w.heap.size + 1) 4 #[.bool false] := by
      have := Blk.new (w.alloc (.cells #[.int .i64 c.sq, .slice c.S c.sn.length c.cs] 28)) 4 #[.bool false]
      simpa using this
    have HB := Lib.hid (And.intro hB0 b1)
    clear hB0 b1 h
    unfold XA.cells
    go_enter Try.func94, Try.ntmps94
    go_wp2
    exact bodyPost_ret (res_cell _ _ 2 4 (w.heap.size + 1) (.bool false) _ rfl rfl (fun W h => load_bool _ _ W h) (HB.out.2.cell 0)) rfl (CtxTo.no HN.out HB.out.1)
  exact callsIn_wide.1 (isctx_in c h n1 n2)
end Go.Proofs.Yteghbfkkpnlilaa
