/-
  Which objects the program finds good, and what it says they are at a snapshot. Conditions: the object reads as it is said to.
-/
import Derived.Test.YtjepfeagbiceoaaQb
namespace Go.Proofs.Ytjepfeagbiceoaa
open Go.RowKit
set_option linter.unusedSimpArgs false
set_option linter.unusedVariables false
set_option maxRecDepth 100000
theorem rise_at : ∀ {L : List Int} {l : Int} {i : Nat} {s : Int}, riseB l L = true → L[i]? = some s → topI l (L.take i) < s
  | [], l, i, s, _, h => by simp at h
  | a :: L, l, 0, s, h, hs => by
    rw [riseB, Bool.and_eq_true, decide_eq_true_iff] at h
    simp at hs
    subst hs
    exact h.1
  | a :: L, l, i + 1, s, h, hs => by
    rw [riseB, Bool.and_eq_true] at h
    rw [List.take_succ_cons, topI]
    exact rise_at h.2 (by simpa using hs)
theorem rise_mid {X Y sn : List Int} {q : Nat} {s l : Int} (h : riseB l (X ++ (sn ++ Y)) = true) (hq : sn[q]? = some s) : topI (topI l X) (sn.take q) < s := by
  rw [riseB_app, Bool.and_eq_true, riseB_app, Bool.and_eq_true] at h
  exact rise_at h.2.1 hq
theorem take_snocI {α : Type} {l : List α} {k : Nat} {b : α} (h : l[k]? = some b) : l.take (k + 1) = l.take k ++ [b] := by
  rw [List.take_add_one, h]; rfl
theorem rise_step {l : Int} {L : List Int} {q : Nat} {s : Int} (h : riseB l (L.take q) = true) (hq : L[q]? = some s) (hs : topI l (L.take q) < s) : riseB l (L.take (q + 1)) = true ∧ topI l (L.take (q + 1)) = s := by
  rw [take_snocI hq, riseB_app, topI_app]
  simp [h, riseB, topI, hs]
theorem snAll_at {cl : List CA} {k : Nat} {c : CA} (hk : cl[k]? = some c) : snAll (cl.map CA.v) = snAll ((cl.take k).map CA.v) ++ (c.sn ++ snAll ((cl.drop (k + 1)).map CA.v)) := by
  have hl := (List.getElem?_eq_some_iff.1 hk).1
  have h1 : cl = cl.take k ++ (c :: cl.drop (k + 1)) := by
    have h2 := List.take_append_drop k cl
    rw [List.drop_eq_getElem_cons hl] at h2
    have h3 : cl[k] = c := (List.getElem?_eq_some_iff.1 hk).2
    rw [h3] at h2
    exact h2.symm
  conv => lhs; rw [h1]
  simp [snAll, CA.v]
theorem snAll_succ {cl : List CA} {k : Nat} {c : CA} (hk : cl[k]? = some c) : snAll ((cl.take (k + 1)).map CA.v) = snAll ((cl.take k).map CA.v) ++ c.sn := by
  rw [take_snocI hk]
  simp [snAll, CA.v]
/-- what Good answers -/
def GoodTo (w : World) (o : OV) (e : Ending) (w' : World) : Prop := ∃ b : Bool, e = .returned (.bool b) ∧ (b = true ↔ Good o) ∧ Below w.heap.size w w'
theorem GoodTo.no {w w' : World} {o : OV} (h : ¬ Good o) (hb : Below w.heap.size w w') : GoodTo w o (.returned (.bool false)) w' := ⟨false, rfl, ⟨fun h => (by cases h), fun g => absurd g h⟩, hb⟩
set_option maxHeartbeats 4000000 in
theorem sgood_any {w : World} (o : OA) (h : o.R w) : Calls Try.prog 25 #[.agg o.cs] w (GoodTo w o.v) := by
  obtain ⟨th, dt, D, cd, sq, C, cc, cl⟩ := o
  have H := Lib.hid h
  have hq1 := h.q1
  have hq2 := h.q2
  have hd1 := h.d1
  have hc1 := h.c1
  have HB0 : Hid (∀ ob, Below w.heap.size w (w.alloc ob)) := Lib.hid fun ob => below_alloc w ob
  clear h
  dsimp only at hq1 hq2 hd1 hc1
  unfold OA.cs
  dsimp only
  obtain ⟨nd, hnd⟩ : ∃ nd, nd = dt.length := ⟨_, rfl⟩
  have HND := Lib.hid hnd
  rw [← hnd] at hd1 ⊢
  clear hnd
  by_cases n1 : sq < 0
  · have HN : Hid (¬ Good (OA.v ⟨th, dt, D, cd, sq, C, cc, cl⟩)) := Lib.hid fun g => by have := g.sq; simp only [OA.v] at this; omega
    have e1 : decide (sq < 0) = true := decide_eq_true n1
    go_enter Try.func25, Try.ntmps25
    go_wp2
    go_ret
    exact GoodTo.no HN.out (HB0.out _)
  have e1 : decide (sq < 0) = false := decide_eq_false n1
  by_cases n2 : (256 : Int) < (nd : Int)
  · have HN : Hid (¬ Good (OA.v ⟨th, dt, D, cd, sq, C, cc, cl⟩)) := Lib.hid fun g => by have := g.dt; simp only [OA.v] at this; rw [← HND.out] at this; omega
    have e2 : decide ((256 : Int) < (nd : Int)) = true := decide_eq_true n2
    go_enter Try.func25, Try.ntmps25
    go_wp2
    go_ret
    exact GoodTo.no HN.out (HB0.out _)
  have e2 : decide ((256 : Int) < (nd : Int)) = false := decide_eq_false n2
  by_cases n3 : th = false ∧ (0 : Int) < (nd : Int)
  · have HN : Hid (¬ Good (OA.v ⟨th, dt, D, cd, sq, C, cc, cl⟩)) := Lib.hid fun g => by have := g.th n3.1; simp only [OA.v] at this; have h2 := HND.out; rw [this] at h2; simp at h2; omega
    obtain ⟨rfl, n3⟩ := n3
    have e3 : decide ((0 : Int) < (nd : Int)) = true := decide_eq_true n3
    go_enter Try.func25, Try.ntmps25
    go_wp2
    go_ret
    exact GoodTo.no HN.out (HB0.out _)
  by_cases n4 : (16 : Int) < (cl.length : Int)
  · have HN : Hid (¬ Good (OA.v ⟨th, dt, D, cd, sq, C, cc, cl⟩)) := Lib.hid fun g => by have := g.cn; simp only [OA.v, OA.vs_len] at this; omega
    have e4 : decide ((16 : Int) < (cl.length : Int)) = true := decide_eq_true n4
    cases th with
    | true =>
      go_enter Try.func25, Try.ntmps25
      go_wp2
      go_ret
      exact GoodTo.no HN.out (HB0.out _)
    | false =>
      have e3 : decide ((0 : Int) < (nd : Int)) = false := decide_eq_false (fun h => n3 ⟨rfl, h⟩)
      have e3n : decide (0 < nd) = false := decide_eq_false (fun h => n3 ⟨rfl, by omega⟩)
      have e3z : nd = 0 := by rcases Nat.eq_zero_or_pos nd with h | h; exact h; exact absurd ⟨rfl, by omega⟩ n3
      clear n3
      go_enter Try.func25, Try.ntmps25
      go_wp2
      go_ret
      exact GoodTo.no HN.out (HB0.out _)
  have e4 : decide ((16 : Int) < (cl.length : Int)) = false := decide_eq_false n4
  have HG : Hid (0 ≤ sq ∧ dt.length ≤ 256 ∧ (th = false → dt = []) ∧ cl.length ≤ 16) := Lib.hid ⟨by omega, by rw [← HND.out]; omega, fun ht => (by
    refine List.eq_nil_of_length_eq_zero ?_
    rw [← HND.out]
    rcases Nat.eq_zero_or_pos nd with h | h
    · exact h
    · exact absurd ⟨ht, by omega⟩ n3), by omega⟩
  have e3 : th = true ∨ (th = false ∧ decide ((0 : Int) < (nd : Int)) = false ∧ decide (0 < nd) = false ∧ nd = 0) := by
    cases th with
    | true => exact .inl rfl
    | false =>
      have e3z : nd = 0 := by rcases Nat.eq_zero_or_pos nd with h | h; exact h; exact absurd ⟨rfl, by omega⟩ n3
      exact .inr ⟨rfl, decide_eq_false (by omega), decide_eq_false (by omega), e3z⟩
  clear n3 n1 n2 n4
  rcases e3 with rfl | ⟨rfl, e3, e3n, e3z⟩
  all_goals
    obtain ⟨BK, hBK⟩ : ∃ BK : World → Prop, BK = fun wr => Below w.heap.size w wr ∧ wr.cell? ⟨w.heap.size, 2, none⟩ = some (.int .i64 sq) ∧ w.heap.size < wr.heap.size := ⟨_, rfl⟩
    have HBK := Lib.hid hBK
    have HB1 : ∀ ob n, BK (w.alloc (.cells #[ob, .slice D n cd, .int .i64 sq, .slice C cl.length cc] 36)) := fun ob n => by
      rw [hBK]
      exact ⟨below_alloc w _, (Blk.new w 36 #[ob, .slice D n cd, .int .i64 sq, .slice C cl.length cc]).cell 2, by simp⟩
    have HBA : Hid (∀ wr ob, BK wr → BK (wr.alloc ob)) := Lib.hid fun wr ob h => by
      rw [hBK] at h ⊢
      exact ⟨h.1.alloc h.1.size _, (World.cell?_alloc_lt wr ob _ h.2.2).trans h.2.1, by rw [World.size_alloc]; omega⟩
    have HBS : Hid (∀ wr, BK wr → Below w.heap.size w wr ∧ wr.cell? ⟨w.heap.size, 2, none⟩ = some (.int .i64 sq)) := Lib.hid fun wr h => by
      rw [hBK] at h
      exact ⟨h.1, h.2.1⟩
    have HB2 := Lib.hid HB1
    clear hBK HB1
    go_enter Try.func25, Try.ntmps25
    go_wp2
    go_loopw [3, 37] (fun l i wr => ∃ k : Nat, k ≤ cl.length ∧ i = .int .i64 k ∧ l = .int .i64 (topI 0 (snAll ((cl.take k).map CA.v))) ∧ riseB 0 (snAll ((cl.take k).map CA.v)) = true ∧ (∀ c ∈ cl.take k, ClG c.v) ∧ BK wr) (fun _ i _ => cl.length - (intOf i).toNat)
    case atStart => exact ⟨0, by omega, rfl, rfl, rfl, fun c hc => by simp at hc, HB2.out _ _⟩
    case round =>
      obtain ⟨k, hk, rfl, rfl, hr, hcg, hb⟩ := hrel
      have HI := Lib.hid (And.intro hr (And.intro hcg hb))
      obtain ⟨T0, hT0⟩ : ∃ T0, T0 = topI 0 (snAll ((cl.take k).map CA.v)) := ⟨_, rfl⟩
      have HT0 := Lib.hid hT0
      rw [← hT0]
      clear hr hcg hb hT0
      obtain ⟨wo, hwo⟩ : ∃ wo, wo = wr := ⟨_, rfl⟩
      subst hwo
      by_cases hlt : k < cl.length
      · have hwk : IntKind.i64.wrap ((k : Int) + 1) = (k : Int) + 1 := by rw [IntKind.wrap_i64]; omega
        obtain ⟨c, hcl⟩ : ∃ c, cl[k]? = some c := ⟨_, List.getElem?_eq_getElem hlt⟩
        have hRr := H.out.since (HBS.out _ HI.out.2.2).1
        obtain ⟨ad, rfl, hl, hc⟩ := hRr.get hcl
        have hok := hRr.cl c (List.mem_of_getElem? hcl)
        have HCL := Lib.hid hcl
        have HOK := Lib.hid hok
        have hs1 := hok.s1
        have hs2 := hok.d1
        have hx1 := hok.s2
        have hx2 := hok.d2
        clear hRr hok hcl
        by_cases m1 : (c.sn.length : Int) = 0
        · have f1 : ((c.sn.length : Int) == 0) = true := beq_iff_eq.2 m1
          have f1' : decide ((c.sn.length : Int) = 0) = true := decide_eq_true m1
          have HN : Hid (∀ tx, ¬ Good (OA.v ⟨tx, dt, D, cd, sq, some ad, cc, cl⟩)) := Lib.hid fun tx g => (g.cl c.v (List.mem_map.2 ⟨c, List.mem_of_getElem? HCL.out, rfl⟩)).ne (List.eq_nil_of_length_eq_zero (by simp only [CA.v]; omega))
          go_wp2_with (have _h := hc; refine wpList_load_scl rfl (.tmp 39) rfl _ rfl c hc ?_; clear _h hc)
          go_ret
          exact GoodTo.no (HN.out _) (HBS.out _ (HBA.out _ _ HI.out.2.2)).1
        have f1 : ((c.sn.length : Int) == 0) = false := beq_eq_false_iff_ne.2 m1
        have f1' : decide ((c.sn.length : Int) = 0) = false := decide_eq_false m1
        by_cases m2 : (256 : Int) < (c.dt.length : Int)
        · have f2 : decide ((256 : Int) < (c.dt.length : Int)) = true := decide_eq_true m2
          have HN : Hid (∀ tx, ¬ Good (OA.v ⟨tx, dt, D, cd, sq, some ad, cc, cl⟩)) := Lib.hid fun tx g => by have := (g.cl c.v (List.mem_map.2 ⟨c, List.mem_of_getElem? HCL.out, rfl⟩)).dt; simp only [CA.v] at this; omega
          go_wp2_with (have _h := hc; refine wpList_load_scl rfl (.tmp 39) rfl _ rfl c hc ?_; clear _h hc)
          go_ret
          exact GoodTo.no (HN.out _) (HBS.out _ (HBA.out _ _ HI.out.2.2)).1
        have f2 : decide ((256 : Int) < (c.dt.length : Int)) = false := decide_eq_false m2
        have HCG : Hid (ClG c.v) := Lib.hid ⟨fun e => m1 (by simp only [CA.v] at e; rw [e]; rfl), by simp only [CA.v]; omega⟩
        clear m1 m2
        go_wp2_with (have _h := hc; refine wpList_load_scl rfl (.tmp 39) rfl _ rfl c hc ?_; clear _h hc)
        go_loopw [3, 54] (fun l i wr => ∃ q : Nat, q ≤ c.sn.length ∧ i = .int .i64 q ∧ l = .int .i64 (topI T0 (c.sn.take q)) ∧ riseB T0 (c.sn.take q) = true ∧ BK wr) (fun _ i _ => c.sn.length - (intOf i).toNat)
        case atStart => exact ⟨0, by omega, rfl, rfl, rfl, HBA.out _ _ HI.out.2.2⟩
        case round =>
          obtain ⟨q, hq, rfl, rfl, hr, hb⟩ := hrel
          have HJ := Lib.hid (And.intro hr hb)
          obtain ⟨T1, hT1⟩ : ∃ T1, T1 = topI T0 (c.sn.take q) := ⟨_, rfl⟩
          have HT1 := Lib.hid hT1
          rw [← hT1]
          clear hr hb hT1
          by_cases hlq : q < c.sn.length
          · have hwq : IntKind.i64.wrap ((q : Int) + 1) = (q : Int) + 1 := by rw [IntKind.wrap_i64]; omega
            obtain ⟨a2, x, hA2, hx, hcx⟩ := (((H.out.since (HBS.out _ HJ.out.2).1).cl c (List.mem_of_getElem? HCL.out)).sn).at_ hlq
            have HX := Lib.hid hx
            clear hx
            generalize c.S = cS at *
            subst hA2
            by_cases hle : x ≤ T1
            · have g1 : decide (x ≤ T1) = true := decide_eq_true hle
              have HN : Hid (∀ tx, ¬ Good (OA.v ⟨tx, dt, D, cd, sq, some ad, cc, cl⟩)) := Lib.hid fun tx g => by
                have h1 := ((good_iff _).1 g).2.2.1
                simp only [OA.v, OA.vs] at h1
                rw [snAll_at HCL.out] at h1
                have h2 := rise_mid h1 HX.out
                rw [← HT0.out, ← HT1.out] at h2
                omega
              go_wp2
              go_ret
              exact GoodTo.no (HN.out _) (HBS.out _ HJ.out.2).1
            · have g1 : decide (x ≤ T1) = false := decide_eq_false hle
              go_wp2
              go_roundw
              case rel =>
                have h3 := rise_step HJ.out.1 HX.out (by rw [← HT1.out]; omega)
                exact ⟨q + 1, by omega, by go_num, by rw [h3.2], h3.1, HJ.out.2⟩
              case measure => simp [intOf]; omega
          · obtain rfl : q = c.sn.length := by omega
            go_wp2
            go_roundw
            case rel =>
              have h4 := HJ.out.1
              rw [List.take_of_length_le (Nat.le_refl _)] at h4
              have h5 := HT1.out
              rw [List.take_of_length_le (Nat.le_refl _)] at h5
              refine ⟨k + 1, by omega, by go_num, ?_, ?_, fun c' hc' => ?_, HJ.out.2⟩
              · rw [snAll_succ HCL.out, topI_app, ← HT0.out, h5]
              · rw [snAll_succ HCL.out, riseB_app, ← HT0.out, h4, HI.out.1]
                rfl
              · rw [take_snocI HCL.out] at hc'
                rcases List.mem_append.1 hc' with h | h
                · exact HI.out.2.1 c' h
                · simp at h
                  subst h
                  exact HCG.out
            case measure => simp [intOf]; omega
      · obtain rfl : k = cl.length := by omega
        have hc2 := (HBS.out _ HI.out.2.2).2
        go_wp2
        go_ret
        have h4 := HI.out.1
        have h5 := HT0.out
        have h6 := HI.out.2.1
        rw [List.take_of_length_le (Nat.le_refl _)] at h4 h5 h6
        refine ⟨_, rfl, ?_, (HBS.out _ HI.out.2.2).1⟩
        rw [decide_eq_true_iff, good_iff]
        simp only [OA.v, OA.vs]
        rw [← h5]
        refine ⟨fun h => ⟨⟨HG.out.1, HG.out.2.1, HG.out.2.2.1, by simpa using HG.out.2.2.2⟩, fun x hx => ?_, h4, h⟩, fun h => h.2.2.2⟩
        obtain ⟨c', hc', rfl⟩ := List.mem_map.1 hx
        exact h6 c' hc'
/-! ### a number among numbers -/
def IndexTo (w : World) (l : List Int) (x : Int) (e : Ending) (w' : World) : Prop := (∃ v : Int, e = .returned (.int .i64 v) ∧ ((x ∈ l ∧ 0 ≤ v) ∨ (x ∉ l ∧ v = -1))) ∧ w = w'
set_option maxHeartbeats 2000000 in
theorem index_any {w : World} {B n c : Nat} {A : Option Addr} {l : List Int} (x : Int) (h : Ints w B A n l) (hn : n ≤ 9223372036854775807) :
    Calls Try.prog 83 #[.slice A n c, .int .i64 x] w (IndexTo w l x) := by
  have H := Lib.hid h
  have hln := h.len
  have HLN := Lib.hid hln
  clear h hln
  go_enter Try.func83, Try.ntmps83
  go_wp2
  go_loopw [8] (fun i wr => ∃ k : Nat, k ≤ n ∧ i = .int .i64 k ∧ x ∉ l.take k ∧ wr = w) (fun i _ => n - (intOf i).toNat)
  case atStart => exact ⟨0, by omega, rfl, by simp, rfl⟩
  case round =>
    obtain ⟨k, hk, rfl, hx, rfl⟩ := hrel
    have HX := Lib.hid hx
    clear hx
    by_cases hlt : k < n
    · have hwk : IntKind.i64.wrap ((k : Int) + 1) = (k : Int) + 1 := by rw [IntKind.wrap_i64]; omega
      obtain ⟨ad, y, rfl, hy, hc⟩ := H.out.at_ hlt
      have HY := Lib.hid hy
      clear hy
      by_cases he : x = y
      · have hb : (x == y) = true := beq_iff_eq.2 he
        go_wp2
        go_ret
        exact ⟨⟨_, rfl, .inl ⟨by rw [he]; exact List.mem_of_getElem? HY.out, by omega⟩⟩, rfl⟩
      · have hb : (x == y) = false := beq_eq_false_iff_ne.2 he
        go_wp2
        go_roundw
        case rel =>
          refine ⟨k + 1, by omega, by go_num, ?_, by first | rfl | trivial⟩
          rw [take_snocI HY.out]
          intro hm
          rcases List.mem_append.1 hm with h | h
          · exact HX.out h
          · simp at h; exact he h
        case measure => simp [intOf]; omega
    · obtain rfl : k = n := by omega
      go_wp2
      go_ret
      refine ⟨⟨_, rfl, .inr ⟨?_, rfl⟩⟩, rfl⟩
      have := HX.out
      rwa [List.take_of_length_le (by rw [HLN.out]; omega)] at this
def ContTo (w : World) (l : List Int) (x : Int) (e : Ending) (w' : World) : Prop := e = .returned (.bool (l.contains x)) ∧ w = w'
theorem contains_any {w : World} {B n c : Nat} {A : Option Addr} {l : List Int} (x : Int) (h : Ints w B A n l) (hn : n ≤ 9223372036854775807) :
    Calls Try.prog 42 #[.slice A n c, .int .i64 x] w (ContTo w l x) := by
  have H := Lib.hid (index_any (c := c) x h hn)
  clear h
  go_enter Try.func42, Try.ntmps42
  go_wp2_with fail
  refine H.out.mono ?_
  rintro e w' ⟨⟨v, rfl, hv⟩, rfl⟩
  have hd : decide ((0 : Int) ≤ v) = l.contains x := by
    rw [Bool.eq_iff_iff, decide_eq_true_iff, List.contains_iff_mem]
    rcases hv with ⟨h1, h2⟩ | ⟨h1, h2⟩
    · exact ⟨fun _ => h1, fun _ => h2⟩
    · exact ⟨fun h => by omega, fun h => absurd h h1⟩
  have HD := Lib.hid hd
  clear hv H hd
  go_wp2
  go_ret
  exact ⟨by show Ending.returned (.bool (decide (0 ≤ v))) = _; rw [HD.out], rfl⟩
end Go.Proofs.Ytjepfeagbiceoaa
