/-
  The walk of StripeCuts. No condition.
-/
import Derived.Test.YtjnkfpnjdnknnaaVp
namespace Go.Proofs.Ytjnkfpnjdnknnaa
open Go.RowKit Go.BigFrame
set_option linter.unusedSimpArgs false
set_option linter.unusedVariables false
set_option maxRecDepth 100000
theorem gone_at {O t Z k : Nat} (hk : k < (goneL O t Z).length) : (goneL O t Z)[k]? = some (ceilO O t + k) := by
  unfold goneL at hk ⊢
  simp at hk
  simp [hk]
theorem gone_len2 {O t Z : Nat} (h0 : 0 < O) (h : t ≤ Z) : (goneL O t Z).length + ceilO O t = ceilO O Z := by
  unfold goneL
  have := ceil_mono h0 h
  simp
  omega
set_option maxHeartbeats 8000000 in
theorem stripeCuts_walk (size : Int) (h1 : I64 size) (obj : Int) (h2 : I64 obj) (t : Int) (h3 : I64 t) {w : World} : Calls Try.prog 6 #[.int .i64 size, .int .i64 obj, .int .i64 t] w fun e w' => e = .returned (.bool true) ∧ Below w.heap.size w w' := by
  have HA := Lib.hid (fun w => valive_any w)
  have HI := Lib.hid (fun w => is_yes w)
  have HG := Lib.hid (fun w => dgood_any size obj w)
  have HN := Lib.hid (cut_no size obj t h1 h2 h3)
  have B0 := Lib.hid (fun (w : World) (o : Obj) => below_alloc w o)
  obtain ⟨g, hg⟩ : ∃ g, g = goodB size obj := ⟨_, rfl⟩
  rw [← hg] at HG
  cases g with
  | false =>
    have HNN := Lib.hid (fun w => HN.out (.inl hg.symm) w)
    have HH := Lib.hid hg
    clear hg HN
    go_enter Try.func6, Try.ntmps6
    go_wp2_with fail
    refine (HA.out _).mono ?_
    rintro e w1 ⟨rfl, b1⟩
    have HB1 := Lib.hid b1
    clear b1
    go_wp2_with fail
    refine (HNN.out _).mono ?_
    rintro e w2 ⟨he, b2⟩
    obtain rfl : e = .returned (.tuple #[.agg #[.int .i64 0, .int .i64 0, .int .i64 0, .int .i64 0], .int .i64 0, .int .i64 0, .iface 33 (.int .i64 1)]) := he
    have HB2 := Lib.hid (HB1.out.trans (b2.mono HB1.out.size))
    clear b2
    go_wp2_with fail
    refine (HG.out _).mono ?_
    rintro e w3 ⟨rfl, rfl⟩
    go_wp2_with fail
    refine (HI.out _).mono ?_
    rintro e w3 ⟨rfl, rfl⟩
    go_wp2
    go_ret
    exact ⟨rfl, HB2.out.alloc HB2.out.size _⟩
  | true =>
    obtain ⟨Z, O, rfl, rfl, hz1, ho1, ho2⟩ := good_cases hg.symm
    by_cases hbad : t < 0 ∨ (Z : Int) < t
    · have HNN := Lib.hid (fun w => HN.out (.inr hbad) w)
      have HH := Lib.hid hg
      by_cases c1 : t < 0
      · have d1 : decide (t < 0) = true := decide_eq_true c1
        clear hg HN hbad
        go_enter Try.func6, Try.ntmps6
        go_wp2_with fail
        refine (HA.out _).mono ?_
        rintro e w1 ⟨rfl, b1⟩
        have HB1 := Lib.hid b1
        clear b1
        go_wp2_with fail
        refine (HNN.out _).mono ?_
        rintro e w2 ⟨he, b2⟩
        obtain rfl : e = .returned (.tuple #[.agg #[.int .i64 0, .int .i64 0, .int .i64 0, .int .i64 0], .int .i64 0, .int .i64 0, .iface 33 (.int .i64 1)]) := he
        have HB2 := Lib.hid (HB1.out.trans (b2.mono HB1.out.size))
        clear b2
        go_wp2_with fail
        refine (HG.out _).mono ?_
        rintro e w3 ⟨rfl, rfl⟩
        go_wp2_with fail
        refine (HI.out _).mono ?_
        rintro e w3 ⟨rfl, rfl⟩
        go_wp2
        go_ret
        exact ⟨rfl, HB2.out.alloc HB2.out.size _⟩
      · have d1 : decide (t < 0) = false := decide_eq_false c1
        have d2 : decide ((Z : Int) < t) = true := decide_eq_true (by omega)
        clear hg HN hbad
        go_enter Try.func6, Try.ntmps6
        go_wp2_with fail
        refine (HA.out _).mono ?_
        rintro e w1 ⟨rfl, b1⟩
        have HB1 := Lib.hid b1
        clear b1
        go_wp2_with fail
        refine (HNN.out _).mono ?_
        rintro e w2 ⟨he, b2⟩
        obtain rfl : e = .returned (.tuple #[.agg #[.int .i64 0, .int .i64 0, .int .i64 0, .int .i64 0], .int .i64 0, .int .i64 0, .iface 33 (.int .i64 1)]) := he
        have HB2 := Lib.hid (HB1.out.trans (b2.mono HB1.out.size))
        clear b2
        go_wp2_with fail
        refine (HG.out _).mono ?_
        rintro e w3 ⟨rfl, rfl⟩
        go_wp2_with fail
        refine (HI.out _).mono ?_
        rintro e w3 ⟨rfl, rfl⟩
        go_wp2
        go_ret
        exact ⟨rfl, HB2.out.alloc HB2.out.size _⟩
    · obtain ⟨c, rfl⟩ : ∃ c : Nat, t = c := ⟨t.toNat, by omega⟩
      have hcz : c ≤ Z := by omega
      have HC := Lib.hid (fun w => cut_any Z O c hg.symm hcz w)
      have HD := Lib.hid (fun w => dcut_any Z O c hz1 ho1 ho2 hcz w)
      have HGA := Lib.hid (fun k => gone_at (O := O) (t := c) (Z := Z) (k := k))
      have hgl := gone_len2 (show 0 < O by omega) hcz
      have hcl : ceilO O Z ≤ Z := ceil_le (by omega)
      unfold CutTo at HC
      unfold DCutTo at HD
      obtain ⟨ed, hed⟩ : ∃ e, e = edgeP O c (Z - c) := ⟨_, rfl⟩
      obtain ⟨ca, hca⟩ : ∃ e, e = ceilO O c := ⟨_, rfl⟩
      obtain ⟨cb, hcb⟩ : ∃ e, e = ceilO O Z := ⟨_, rfl⟩
      obtain ⟨l, hl⟩ : ∃ l, l = goneL O c Z := ⟨_, rfl⟩
      rw [← hed] at HC HD
      rw [← hca] at HC HGA hgl
      rw [← hcb] at HC hgl hcl
      rw [← hl] at HD HGA hgl
      have d1 : decide ((c : Int) < 0) = false := decide_eq_false (by omega)
      have d2 : decide ((Z : Int) < (c : Int)) = false := decide_eq_false (by omega)
      have HH := Lib.hid hg
      clear hg HN hbad hed hca hcb hl
      have hpn := fun W => run_pc_same (ed.ix : Int) (ed.a : Int) (ed.ln : Int) (ed.fr : Int) W
      have hws : IntKind.i64.wrap ((cb : Int) - (ca : Int)) = (l.length : Int) := by rw [show (cb : Int) - (ca : Int) = (l.length : Int) by omega]; exact wrap_in (by unfold I64; omega)
      go_enter Try.func6, Try.ntmps6
      go_wp2_with fail
      refine (HA.out _).mono ?_
      rintro e w1 ⟨rfl, b1⟩
      have HB1 := Lib.hid b1
      clear b1
      go_wp2_with fail
      refine (HC.out _).mono ?_
      rintro e w2 ⟨he, b2⟩
      obtain rfl : e = .returned (.tuple #[.agg #[.int .i64 (ed.ix : Int), .int .i64 (ed.a : Int), .int .i64 (ed.ln : Int), .int .i64 (ed.fr : Int)], .int .i64 (ca : Int), .int .i64 (cb : Int), .nilIface]) := he
      have hb2 := HB1.out.trans (b2.mono HB1.out.size)
      obtain ⟨W3, hW3⟩ : ∃ W, W = w2.alloc (.cells #[.int .i64 (ed.ix : Int), .int .i64 (ed.a : Int), .int .i64 (ed.ln : Int), .int .i64 (ed.fr : Int)] 37) := ⟨_, rfl⟩
      have hb3 : Below w.heap.size w W3 := by rw [hW3]; exact hb2.alloc hb2.size _
      have hk3 : Blk W3 w2.heap.size 37 #[.int .i64 (ed.ix : Int), .int .i64 (ed.a : Int), .int .i64 (ed.ln : Int), .int .i64 (ed.fr : Int)] := by rw [hW3]; exact Blk.new _ _ _
      have HW3 := Lib.hid hW3
      have HB3 := Lib.hid hb3
      have HK3 := Lib.hid hk3
      clear b2 hb2 hb3 hk3 hW3
      go_upto_region 4 with (fail)
      rw [← HW3.out]
      go_wp2_with fail
      refine (HG.out _).mono ?_
      rintro e w3 ⟨rfl, rfl⟩
      go_wp2_with fail
      refine (HD.out _).mono ?_
      rintro e w4 ⟨v, he, ho, b4⟩
      obtain rfl : e = .returned (.tuple #[.agg #[.int .i64 (ed.ix : Int), .int .i64 (ed.a : Int), .int .i64 (ed.ln : Int), .int .i64 (ed.fr : Int)], v]) := he
      obtain ⟨A4, cap, rfl, -⟩ := ho.form
      have k4 := HK3.out.of (b4.block _ HK3.out.lt)
      have lt4 := k4.lt
      have k5 := k4.alloc (.cells #[.int .i64 (ed.ix : Int), .int .i64 (ed.a : Int), .int .i64 (ed.ln : Int), .int .i64 (ed.fr : Int)] 38)
      have c0 : w4.cell? ⟨w2.heap.size, 0, none⟩ = some (.int .i64 (ed.ix : Int)) := k4.cell 0
      have c1 : w4.cell? ⟨w2.heap.size, 1, none⟩ = some (.int .i64 (ed.a : Int)) := k4.cell 1
      have c2 : w4.cell? ⟨w2.heap.size, 2, none⟩ = some (.int .i64 (ed.ln : Int)) := k4.cell 2
      have c3 : w4.cell? ⟨w2.heap.size, 3, none⟩ = some (.int .i64 (ed.fr : Int)) := k4.cell 3
      have x0 : (w4.alloc (.cells #[.int .i64 (ed.ix : Int), .int .i64 (ed.a : Int), .int .i64 (ed.ln : Int), .int .i64 (ed.fr : Int)] 38)).cell? ⟨w2.heap.size, 0, none⟩ = some (.int .i64 (ed.ix : Int)) := k5.cell 0
      have x1 : (w4.alloc (.cells #[.int .i64 (ed.ix : Int), .int .i64 (ed.a : Int), .int .i64 (ed.ln : Int), .int .i64 (ed.fr : Int)] 38)).cell? ⟨w2.heap.size, 1, none⟩ = some (.int .i64 (ed.a : Int)) := k5.cell 1
      have x2 : (w4.alloc (.cells #[.int .i64 (ed.ix : Int), .int .i64 (ed.a : Int), .int .i64 (ed.ln : Int), .int .i64 (ed.fr : Int)] 38)).cell? ⟨w2.heap.size, 2, none⟩ = some (.int .i64 (ed.ln : Int)) := k5.cell 2
      have x3 : (w4.alloc (.cells #[.int .i64 (ed.ix : Int), .int .i64 (ed.a : Int), .int .i64 (ed.ln : Int), .int .i64 (ed.fr : Int)] 38)).cell? ⟨w2.heap.size, 3, none⟩ = some (.int .i64 (ed.fr : Int)) := k5.cell 3
      have HO := Lib.hid ho
      have HB4 := Lib.hid (HB3.out.trans (b4.mono HB3.out.size))
      clear k4 k5 ho b4
      go_wp2
      clear x0 x1 x2 x3
      go_loopw [78] (fun i wr => ∃ k : Nat, k ≤ l.length ∧ i = .int .i64 k ∧ Below w4.heap.size w4 wr) (fun i _ => l.length - (intS i).toNat)
      case atStart => exact ⟨0, by omega, rfl, B0.out _ _⟩
      case round =>
        obtain ⟨k, hk, rfl, hb⟩ := hrel
        have HB := Lib.hid hb
        by_cases hlt : k < l.length
        · have dl : decide ((k : Int) < (l.length : Int)) = true := decide_eq_true (by omega)
          have hO := HO.out.since hb
          obtain ⟨g, rfl, -, -, -, c⟩ := hO.at0 (HGA.out k hlt)
          have hwk : IntKind.i64.wrap ((k : Int) + 1) = (k : Int) + 1 := wrap_in (by unfold I64; omega)
          have hwc : IntKind.i64.wrap ((ca : Int) + (k : Int)) = ((ca + k : Nat) : Int) := by rw [show (ca : Int) + (k : Int) = ((ca + k : Nat) : Int) by omega]; exact wrap_in (by unfold I64; omega)
          have hne : (((ca + k : Nat) : Int) != ((ca + k : Nat) : Int)) = false := by simp
          clear hO hb
          go_wp2
          exact ⟨⟨k + 1, by omega, by go_num, HB.out⟩, by simp only [intS]; omega⟩
        · obtain rfl : k = l.length := by omega
          have dl : decide ((l.length : Int) < (l.length : Int)) = false := decide_eq_false (by omega)
          clear hb
          go_wp2
          go_ret
          exact ⟨rfl, HB4.out.trans (HB.out.mono HB4.out.size)⟩
end Go.Proofs.Ytjnkfpnjdnknnaa
