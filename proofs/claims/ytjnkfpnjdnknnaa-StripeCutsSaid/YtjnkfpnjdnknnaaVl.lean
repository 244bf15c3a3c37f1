/-
  The walk of StripePieces. No condition.
-/
import Derived.Test.YtjnkfpnjdnknnaaVo
namespace Go.Proofs.Ytjnkfpnjdnknnaa
open Go.RowKit Go.BigFrame
set_option linter.unusedSimpArgs false
set_option linter.unusedVariables false
set_option maxRecDepth 100000
theorem run_pc_neq (a b c d p q r s : Int) (w : World) : (binOp .neq 38 (.agg #[.int .i64 a, .int .i64 b, .int .i64 c, .int .i64 d]) (.agg #[.int .i64 p, .int .i64 q, .int .i64 r, .int .i64 s])).run Try.prog w = .ok (.bool (!(decide (a = p) && decide (b = q) && decide (c = r) && decide (d = s)))) w := by
  go_simp
  by_cases h1 : a = p <;> by_cases h2 : b = q <;> by_cases h3 : c = r <;> by_cases h4 : d = s <;> simp [h1, h2, h3, h4]
theorem run_pc_same (a b c d : Int) (w : World) : (binOp .neq 38 (.agg #[.int .i64 a, .int .i64 b, .int .i64 c, .int .i64 d]) (.agg #[.int .i64 a, .int .i64 b, .int .i64 c, .int .i64 d])).run Try.prog w = .ok (.bool false) w := by
  rw [run_pc_neq]
  simp
/-- the law's variable and a row behind it -/
theorem range_blk (x : Rg) (w : World) : Blk (w.alloc (.cells x.cs 23)) w.heap.size 23 x.cs := Blk.new w _ _
set_option maxHeartbeats 8000000 in
theorem stripePieces_walk (x : Rg) {w : World} : Calls Try.prog 3 #[.agg x.cs] w fun e w' => e = .returned (.bool true) ∧ Below w.heap.size w w' := by
  obtain ⟨size, obj, s, n, h1, h2, h3, h4⟩ := x
  have HA := Lib.hid (fun w => valive_any w)
  have HI := Lib.hid (fun w => is_yes w)
  have HG := Lib.hid (fun w => dgood_any size obj w)
  have HN := Lib.hid (pieces_no size obj s n h1 h2 h3 h4)
  have HK : Hid (∀ W, Below (w.heap.size + 1) (w.alloc (.cells #[.int .i64 size, .int .i64 obj, .int .i64 s, .int .i64 n] 23)) W → Blk W w.heap.size 23 #[.int .i64 size, .int .i64 obj, .int .i64 s, .int .i64 n]) := Lib.hid fun W hW => (Blk.new w _ _).of (hW.block _ (by omega))
  have hz0 : (w.alloc (.cells #[.int .i64 size, .int .i64 obj, .int .i64 s, .int .i64 n] 23)).heap.size = w.heap.size + 1 := by simp
  have HB0 : Hid (∀ W, Below (w.heap.size + 1) (w.alloc (.cells #[.int .i64 size, .int .i64 obj, .int .i64 s, .int .i64 n] 23)) W → Below w.heap.size w W) := Lib.hid fun W hW => (below_alloc w _).trans (hW.mono (by omega))
  unfold Rg.cs
  simp only
  obtain ⟨g, hg⟩ : ∃ g, g = goodB size obj := ⟨_, rfl⟩
  rw [← hg] at HG
  cases g with
  | false =>
    have HNN := Lib.hid (fun w => HN.out (.inl hg.symm) w)
    have HH := Lib.hid hg
    clear hg HN
    go_enter Try.func3, Try.ntmps3
    go_wp2_with fail
    refine (HA.out _).mono ?_
    rintro e w1 ⟨rfl, b1⟩
    rw [hz0] at b1
    have HB1 := Lib.hid b1
    have k := HK.out _ b1
    have k0 : w1.cell? ⟨w.heap.size, 0, none⟩ = some (.int .i64 size) := k.cell 0
    have k1 : w1.cell? ⟨w.heap.size, 1, none⟩ = some (.int .i64 obj) := k.cell 1
    have k2 : w1.cell? ⟨w.heap.size, 2, none⟩ = some (.int .i64 s) := k.cell 2
    have k3 : w1.cell? ⟨w.heap.size, 3, none⟩ = some (.int .i64 n) := k.cell 3
    clear b1 k
    go_wp2_with fail
    refine (HNN.out _).mono ?_
    rintro e w2 ⟨he, b2⟩
    obtain rfl : e = .returned (.tuple #[.slice none 0 0, .iface 33 (.int .i64 1)]) := he
    have hz1 := HB1.out.size
    have b3 := HB1.out.trans (b2.mono (by omega))
    have HB2 := Lib.hid b3
    have k := HK.out _ b3
    have k0 : w2.cell? ⟨w.heap.size, 0, none⟩ = some (.int .i64 size) := k.cell 0
    have k1 : w2.cell? ⟨w.heap.size, 1, none⟩ = some (.int .i64 obj) := k.cell 1
    clear b2 b3 k
    go_wp2_with fail
    refine (HG.out _).mono ?_
    rintro e w3 ⟨rfl, rfl⟩
    go_wp2_with fail
    refine (HI.out _).mono ?_
    rintro e w3 ⟨rfl, rfl⟩
    go_wp2
    go_ret
    exact ⟨rfl, HB0.out _ HB2.out⟩
  | true =>
    obtain ⟨Z, O, rfl, rfl, hz1, ho1, ho2⟩ := good_cases hg.symm
    have HR := Lib.hid (fun w => drange_any (Z : Int) s n (by omega) (by omega) h3 w)
    obtain ⟨r, hr⟩ : ∃ r, r = rangeB (Z : Int) s n := ⟨_, rfl⟩
    rw [← hr] at HR
    cases r with
    | false =>
      have HNN := Lib.hid (fun w => HN.out (.inr hr.symm) w)
      have HH := Lib.hid (And.intro hg hr)
      clear hg HN hr
      go_enter Try.func3, Try.ntmps3
      go_wp2_with fail
      refine (HA.out _).mono ?_
      rintro e w1 ⟨rfl, b1⟩
      rw [hz0] at b1
      have HB1 := Lib.hid b1
      have k := HK.out _ b1
      have k0 : w1.cell? ⟨w.heap.size, 0, none⟩ = some (.int .i64 Z) := k.cell 0
      have k1 : w1.cell? ⟨w.heap.size, 1, none⟩ = some (.int .i64 O) := k.cell 1
      have k2 : w1.cell? ⟨w.heap.size, 2, none⟩ = some (.int .i64 s) := k.cell 2
      have k3 : w1.cell? ⟨w.heap.size, 3, none⟩ = some (.int .i64 n) := k.cell 3
      clear b1 k
      go_wp2_with fail
      refine (HNN.out _).mono ?_
      rintro e w2 ⟨he, b2⟩
      obtain rfl : e = .returned (.tuple #[.slice none 0 0, .iface 33 (.int .i64 1)]) := he
      have hz1 := HB1.out.size
      have b3 := HB1.out.trans (b2.mono (by omega))
      have HB2 := Lib.hid b3
      have k := HK.out _ b3
      have k0 : w2.cell? ⟨w.heap.size, 0, none⟩ = some (.int .i64 Z) := k.cell 0
      have k1 : w2.cell? ⟨w.heap.size, 1, none⟩ = some (.int .i64 O) := k.cell 1
      have k2 : w2.cell? ⟨w.heap.size, 2, none⟩ = some (.int .i64 s) := k.cell 2
      have k3 : w2.cell? ⟨w.heap.size, 3, none⟩ = some (.int .i64 n) := k.cell 3
      clear b2 b3 k
      go_wp2_with fail
      refine (HG.out _).mono ?_
      rintro e w3 ⟨rfl, rfl⟩
      go_wp2_with fail
      refine (HR.out _).mono ?_
      rintro e w3 ⟨rfl, rfl⟩
      go_wp2_with fail
      refine (HI.out _).mono ?_
      rintro e w3 ⟨rfl, rfl⟩
      go_wp2
      go_ret
      exact ⟨rfl, HB0.out _ HB2.out⟩
    | true =>
      obtain ⟨a, m, rfl, rfl, hrm⟩ := range_cases (by omega) hr.symm
      have HP := Lib.hid (fun w => pieces_any Z O a m hg.symm (by omega) w)
      have HD := Lib.hid (fun w => dpieces_any O a m ho1 ho2 (by omega) w)
      have HLL : Hid ((pcsL O a m).length ≤ 4096) := Lib.hid (by have := pcsL_len (O := O) (s := a) m; omega)
      have HH := Lib.hid (And.intro hg hr)
      obtain ⟨l, hl⟩ : ∃ l, l = pcsL O a m := ⟨_, rfl⟩
      unfold PiecesTo at HP
      rw [← hl] at HP HD HLL
      clear hg HN hr hl
      go_enter Try.func3, Try.ntmps3
      go_wp2_with fail
      refine (HA.out _).mono ?_
      rintro e w1 ⟨rfl, b1⟩
      rw [hz0] at b1
      have HB1 := Lib.hid b1
      have k := HK.out _ b1
      have k0 : w1.cell? ⟨w.heap.size, 0, none⟩ = some (.int .i64 Z) := k.cell 0
      have k1 : w1.cell? ⟨w.heap.size, 1, none⟩ = some (.int .i64 O) := k.cell 1
      have k2 : w1.cell? ⟨w.heap.size, 2, none⟩ = some (.int .i64 a) := k.cell 2
      have k3 : w1.cell? ⟨w.heap.size, 3, none⟩ = some (.int .i64 m) := k.cell 3
      clear b1 k
      go_wp2_with fail
      refine (HP.out _).mono ?_
      rintro e w2 ⟨v, he, ho, -, -, b2⟩
      obtain rfl : e = .returned (.tuple #[v, .nilIface]) := he
      obtain ⟨A1, cap, rfl, -⟩ := ho.form
      have hz1 := HB1.out.size
      have b3 := HB1.out.trans (b2.mono (by omega))
      have HB2 := Lib.hid b3
      have HO := Lib.hid ho
      have k := HK.out _ b3
      have k0 : w2.cell? ⟨w.heap.size, 0, none⟩ = some (.int .i64 Z) := k.cell 0
      have k1 : w2.cell? ⟨w.heap.size, 1, none⟩ = some (.int .i64 O) := k.cell 1
      have k2 : w2.cell? ⟨w.heap.size, 2, none⟩ = some (.int .i64 a) := k.cell 2
      have k3 : w2.cell? ⟨w.heap.size, 3, none⟩ = some (.int .i64 m) := k.cell 3
      clear b2 b3 k ho
      go_wp2_with fail
      refine (HG.out _).mono ?_
      rintro e w3 ⟨rfl, rfl⟩
      go_wp2_with fail
      refine (HR.out _).mono ?_
      rintro e w3 ⟨rfl, rfl⟩
      go_wp2_with fail
      refine (HD.out _).mono ?_
      rintro e w3 ⟨v3, rfl, ho, b3⟩
      obtain ⟨A3, cap3, rfl, -⟩ := ho.form
      have hz2 := HB2.out.size
      have HO3 := Lib.hid ho
      have HO2 := Lib.hid (HO.out.since b3)
      have HB3 := Lib.hid (HB2.out.trans (b3.mono (by omega)))
      clear ho b3 HO
      go_wp2
      go_loopw [63] (fun i wr => ∃ k : Nat, k ≤ l.length ∧ i = .int .i64 k ∧ Below w3.heap.size w3 wr) (fun i _ => l.length - (intS i).toNat)
      case atStart => exact ⟨0, by omega, rfl, Below.refl _ _⟩
      case round =>
        obtain ⟨k, hk, rfl, hb⟩ := hrel
        have HB := Lib.hid hb
        by_cases hlt : k < l.length
        · have dl : decide ((k : Int) < (l.length : Int)) = true := decide_eq_true (by omega)
          obtain ⟨p, hp⟩ : ∃ p, l[k]? = some p := ⟨_, List.getElem?_eq_getElem hlt⟩
          have hO2 := HO2.out.since hb
          have hO3 := HO3.out.since hb
          obtain ⟨g2, rfl, -, hg2, -, c⟩ := hO2.at0 hp
          obtain ⟨g3, rfl, -, hg3, -, d⟩ := hO3.at0 hp
          have hwk : IntKind.i64.wrap ((k : Int) + 1) = (k : Int) + 1 := wrap_in (by have := HLL.out; unfold I64; omega)
          have c0 : wr.cell? ⟨g2, k * 4, none⟩ = some (.int .i64 (p.ix : Int)) := c 0 _ rfl
          have c1 : wr.cell? ⟨g2, k * 4 + 1, none⟩ = some (.int .i64 (p.a : Int)) := c 1 _ rfl
          have c2 : wr.cell? ⟨g2, k * 4 + 2, none⟩ = some (.int .i64 (p.ln : Int)) := c 2 _ rfl
          have c3 : wr.cell? ⟨g2, k * 4 + 3, none⟩ = some (.int .i64 (p.fr : Int)) := c 3 _ rfl
          have hbx := hb.alloc hb.size (.cells #[.int .i64 (p.ix : Int), .int .i64 (p.a : Int), .int .i64 (p.ln : Int), .int .i64 (p.fr : Int)] 37)
          have d0 : (wr.alloc (.cells #[.int .i64 (p.ix : Int), .int .i64 (p.a : Int), .int .i64 (p.ln : Int), .int .i64 (p.fr : Int)] 37)).cell? ⟨g3, k * 4, none⟩ = some (.int .i64 (p.ix : Int)) := by rw [World.cell?_alloc_lt _ _ _ hg3]; exact d 0 _ rfl
          have d1 : (wr.alloc (.cells #[.int .i64 (p.ix : Int), .int .i64 (p.a : Int), .int .i64 (p.ln : Int), .int .i64 (p.fr : Int)] 37)).cell? ⟨g3, k * 4 + 1, none⟩ = some (.int .i64 (p.a : Int)) := by rw [World.cell?_alloc_lt _ _ _ hg3]; exact d 1 _ rfl
          have d2 : (wr.alloc (.cells #[.int .i64 (p.ix : Int), .int .i64 (p.a : Int), .int .i64 (p.ln : Int), .int .i64 (p.fr : Int)] 37)).cell? ⟨g3, k * 4 + 2, none⟩ = some (.int .i64 (p.ln : Int)) := by rw [World.cell?_alloc_lt _ _ _ hg3]; exact d 2 _ rfl
          have d3 : (wr.alloc (.cells #[.int .i64 (p.ix : Int), .int .i64 (p.a : Int), .int .i64 (p.ln : Int), .int .i64 (p.fr : Int)] 37)).cell? ⟨g3, k * 4 + 3, none⟩ = some (.int .i64 (p.fr : Int)) := by rw [World.cell?_alloc_lt _ _ _ hg3]; exact d 3 _ rfl
          have hsame := fun W => run_pc_same (p.ix : Int) (p.a : Int) (p.ln : Int) (p.fr : Int) W
          have HBX := Lib.hid hbx
          clear hO2 hO3 c d hb hbx hp hg2 hg3
          go_upto_region 12 with (fail)
          go_quiet (fail)
          go_wp2
          exact ⟨⟨k + 1, by omega, by go_num, below_drewN HBX.out _⟩, by simp only [intS]; omega⟩
        · obtain rfl : k = l.length := by omega
          have dl : decide ((l.length : Int) < (l.length : Int)) = false := decide_eq_false (by omega)
          clear hb
          go_wp2
          go_ret
          exact ⟨rfl, HB0.out _ (HB3.out.trans (HB.out.mono (by have := HB3.out.size; omega)))⟩
end Go.Proofs.Ytjnkfpnjdnknnaa
