/-
  The walk of StripeBytes. No condition.
-/
import Derived.Test.YtjnkfpnjdnknnaaVl
namespace Go.Proofs.Ytjnkfpnjdnknnaa
open Go.RowKit Go.BigFrame
set_option linter.unusedSimpArgs false
set_option linter.unusedVariables false
set_option maxRecDepth 100000
theorem pc_in {O s n Z f : Nat} {p : Pc} {r : List Pc} (h0 : 0 < O) (hz : s + n ≤ Z) (h : Ch O s f (p :: r) n) : p.ix < ceilO O Z ∧ p.a + p.ln ≤ cntW O p.ix Z ∧ p.ix * O + p.a = s + f ∧ p.fr = f ∧ 1 ≤ p.ln ∧ f + p.ln ≤ n ∧ p.ix ≤ s + f ∧ Ch O s (f + p.ln) r n := by
  obtain ⟨h1, h2, h3, h4, h5, h6⟩ := h
  have hle := h6.le
  have hm := mod_eq' (s + f) O
  rw [← h1, ← h2] at hm
  have hd := Nat.div_le_self (s + f) O
  rw [← h1] at hd
  refine ⟨(ceil_lt h0).2 (by omega), ?_, by omega, h3, h4, hle, hd, h6⟩
  unfold cntW
  omega
set_option maxHeartbeats 8000000 in
theorem stripeBytes_walk (x : Rg) {w : World} : Calls Try.prog 4 #[.agg x.cs] w fun e w' => e = .returned (.bool true) ∧ Below w.heap.size w w' := by
  obtain ⟨size, obj, s, n, h1, h2, h3, h4⟩ := x
  have HA := Lib.hid (fun w => valive_any w)
  have HN := Lib.hid (pieces_no size obj s n h1 h2 h3 h4)
  have HK : Hid (∀ W, Below (w.heap.size + 1) (w.alloc (.cells #[.int .i64 size, .int .i64 obj, .int .i64 s, .int .i64 n] 23)) W → Blk W w.heap.size 23 #[.int .i64 size, .int .i64 obj, .int .i64 s, .int .i64 n]) := Lib.hid fun W hW => (Blk.new w _ _).of (hW.block _ (by omega))
  have hz0 : (w.alloc (.cells #[.int .i64 size, .int .i64 obj, .int .i64 s, .int .i64 n] 23)).heap.size = w.heap.size + 1 := by simp
  have HB0 : Hid (∀ W, Below (w.heap.size + 1) (w.alloc (.cells #[.int .i64 size, .int .i64 obj, .int .i64 s, .int .i64 n] 23)) W → Below w.heap.size w W) := Lib.hid fun W hW => (below_alloc w _).trans (hW.mono (by omega))
  unfold Rg.cs
  simp only
  by_cases hgood : goodB size obj = false ∨ rangeB size s n = false
  · have HNN := Lib.hid (fun w => HN.out hgood w)
    have HH := Lib.hid hgood
    clear hgood HN
    go_enter Try.func4, Try.ntmps4
    go_wp2_with fail
    refine (HA.out _).mono ?_
    rintro e w1 ⟨rfl, b1⟩
    rw [hz0] at b1
    have HB1 := Lib.hid b1
    have k := HK.out _ b1
    have k0 : w1.cell? ⟨w.heap.size, 0, none⟩ = some (.int .i64 size) := k.cell 0
    have k1 : w1.cell? ⟨w.heap.size, 1, none⟩ = some (.int .i64 obj) := k.cell 1
    have k2 : w1.cell? ⟨w.heap.size, 2, none⟩ = some (.int .i64 s) := k.cell 2
    have k3 : w1.cell? ⟨w.heap.size, 3, none⟩ = some (.int .i64 n) := k.cell 3
    clear b1 k
    go_wp2_with fail
    refine (HNN.out _).mono ?_
    rintro e w2 ⟨he, b2⟩
    obtain rfl : e = .returned (.tuple #[.slice none 0 0, .iface 33 (.int .i64 1)]) := he
    have hz1 := HB1.out.size
    have HB2 := Lib.hid (HB1.out.trans (b2.mono (by omega)))
    clear b2
    go_wp2
    go_ret
    exact ⟨rfl, HB0.out _ HB2.out⟩
  · have hg : goodB size obj = true := by cases h : goodB size obj; exact absurd (.inl h) hgood; rfl
    have hr : rangeB size s n = true := by cases h : rangeB size s n; exact absurd (.inr h) hgood; rfl
    obtain ⟨Z, O, rfl, rfl, hz1, ho1, ho2⟩ := good_cases hg
    obtain ⟨a, m, rfl, rfl, hrm⟩ := range_cases (by omega) hr
    have HP := Lib.hid (fun w => pieces_any Z O a m hg (by omega) w)
    have HW := Lib.hid (fun k hk w => whole_any Z O k hg hk w)
    have HLL : Hid ((pcsL O a m).length ≤ 4096) := Lib.hid (by have := pcsL_len (O := O) (s := a) m; omega)
    obtain ⟨l, hl⟩ : ∃ l, l = pcsL O a m := ⟨_, rfl⟩
    unfold PiecesTo at HP
    rw [← hl] at HP HLL
    clear hg HN hr hl hgood
    go_enter Try.func4, Try.ntmps4
    go_wp2_with fail
    refine (HA.out _).mono ?_
    rintro e w1 ⟨rfl, b1⟩
    rw [hz0] at b1
    have HB1 := Lib.hid b1
    have k := HK.out _ b1
    have k0 : w1.cell? ⟨w.heap.size, 0, none⟩ = some (.int .i64 Z) := k.cell 0
    have k1 : w1.cell? ⟨w.heap.size, 1, none⟩ = some (.int .i64 O) := k.cell 1
    have k2 : w1.cell? ⟨w.heap.size, 2, none⟩ = some (.int .i64 a) := k.cell 2
    have k3 : w1.cell? ⟨w.heap.size, 3, none⟩ = some (.int .i64 m) := k.cell 3
    clear b1 k
    go_wp2_with fail
    refine (HP.out _).mono ?_
    rintro e w2 ⟨v, he, ho, hch, -, b2⟩
    obtain rfl : e = .returned (.tuple #[v, .nilIface]) := he
    obtain ⟨A1, cap, rfl, -⟩ := ho.form
    have hzz1 := HB1.out.size
    have b3 := HB1.out.trans (b2.mono (by omega))
    have HB2 := Lib.hid b3
    have HO := Lib.hid ho
    have HC := Lib.hid hch
    have k := HK.out _ b3
    have k2 : w2.cell? ⟨w.heap.size, 2, none⟩ = some (.int .i64 a) := k.cell 2
    have hwz := (Blk.lt k)
    clear b2 b3 k ho hch
    go_wp2
    clear k2
    go_loopw [5, 33] (fun at' i wr => ∃ k f : Nat, k ≤ l.length ∧ i = .int .i64 k ∧ at' = .int .i64 ((a : Int) + (f : Int)) ∧ f ≤ m ∧ Ch O a f (l.drop k) m ∧ Below w2.heap.size w2 wr) (fun _ i _ => l.length - (intS i).toNat)
    case atStart => exact ⟨0, 0, by omega, rfl, by simp, by omega, by simpa using HC.out, Below.refl _ _⟩
    case round =>
      obtain ⟨k, f, hk, rfl, rfl, hf, hch, hb⟩ := hrel
      have hbb := HB2.out.trans (hb.mono (by have := HB2.out.size; omega))
      have kk := HK.out _ hbb
      have k1 : wr.cell? ⟨w.heap.size, 1, none⟩ = some (.int .i64 O) := kk.cell 1
      have k0 : wr.cell? ⟨w.heap.size, 0, none⟩ = some (.int .i64 Z) := kk.cell 0
      have k2 : wr.cell? ⟨w.heap.size, 2, none⟩ = some (.int .i64 a) := kk.cell 2
      have k3 : wr.cell? ⟨w.heap.size, 3, none⟩ = some (.int .i64 m) := kk.cell 3
      have HB := Lib.hid hb
      have HBB := Lib.hid hbb
      by_cases hlt : k < l.length
      · have dl : decide ((k : Int) < (l.length : Int)) = true := decide_eq_true (by omega)
        obtain ⟨p, hp⟩ : ∃ p, l[k]? = some p := ⟨_, List.getElem?_eq_getElem hlt⟩
        have hdr : l.drop k = p :: l.drop (k + 1) := by
          rw [List.drop_eq_getElem_cons hlt]
          congr 1
          rw [List.getElem?_eq_getElem hlt] at hp
          injection hp
        rw [hdr] at hch
        obtain ⟨q1, q2, q3, q4, q5, q6, q7, q8⟩ := pc_in (show 0 < O by omega) (show a + m ≤ Z by omega) hch
        have hO2 := HO.out.since hb
        obtain ⟨g2, rfl, -, hg2, -, c⟩ := hO2.at0 hp
        have hwk : IntKind.i64.wrap ((k : Int) + 1) = (k : Int) + 1 := wrap_in (by have := HLL.out; unfold I64; omega)
        have c0 : wr.cell? ⟨g2, k * 4, none⟩ = some (.int .i64 (p.ix : Int)) := c 0 _ rfl
        have c1 : wr.cell? ⟨g2, k * 4 + 1, none⟩ = some (.int .i64 (p.a : Int)) := c 1 _ rfl
        have c2 : wr.cell? ⟨g2, k * 4 + 2, none⟩ = some (.int .i64 (p.ln : Int)) := c 2 _ rfl
        have c3 : wr.cell? ⟨g2, k * 4 + 3, none⟩ = some (.int .i64 (f : Int)) := by rw [← q4]; exact c 3 _ rfl
        obtain ⟨W5, hW5⟩ : ∃ W, W = wr.alloc (.cells #[.int .i64 (p.ix : Int), .int .i64 (p.a : Int), .int .i64 (p.ln : Int), .int .i64 (f : Int)] 37) := ⟨_, rfl⟩
        have hb5 : Below wr.heap.size wr W5 := by rw [hW5]; exact below_alloc _ _
        have hk5 : Blk W5 wr.heap.size 37 #[.int .i64 (p.ix : Int), .int .i64 (p.a : Int), .int .i64 (p.ln : Int), .int .i64 (f : Int)] := by rw [hW5]; exact Blk.new _ _ _
        have hz5 : W5.heap.size = wr.heap.size + 1 := by rw [hW5]; simp
        have HWH := Lib.hid (fun w => HW.out p.ix q1 w)
        obtain ⟨wh, hwh⟩ : ∃ wh, wh = cntW O p.ix Z := ⟨_, rfl⟩
        rw [← hwh] at q2 HWH
        have HQ8 := Lib.hid q8
        have HB5 := Lib.hid hb5
        have HK5 := Lib.hid hk5
        have HW5 := Lib.hid hW5
        have hwh2 : wh ≤ O := by rw [hwh]; unfold cntW; omega
        obtain ⟨pm, hpm⟩ : ∃ pm, pm = p.ix * O := ⟨_, rfl⟩
        rw [← hpm] at q3
        have hwm : IntKind.i64.wrap ((p.ix : Int) * (O : Int)) = (pm : Int) := by rw [show (p.ix : Int) * (O : Int) = (pm : Int) from by rw [hpm]; simp]; exact wrap_in (by unfold I64; omega)
        have hwa : IntKind.i64.wrap ((pm : Int) + (p.a : Int)) = (a : Int) + (f : Int) := by rw [show (pm : Int) + (p.a : Int) = (a : Int) + (f : Int) by omega]; exact wrap_in (by unfold I64; omega)
        have hws : IntKind.i64.wrap ((a : Int) + (f : Int) - (a : Int)) = (f : Int) := by rw [show (a : Int) + (f : Int) - (a : Int) = (f : Int) by omega]; exact wrap_in (by unfold I64; omega)
        have hwl : IntKind.i64.wrap ((p.a : Int) + (p.ln : Int)) = (p.a : Int) + (p.ln : Int) := wrap_in (by unfold I64; omega)
        have hwn : IntKind.i64.wrap ((a : Int) + (f : Int) + (p.ln : Int)) = (a : Int) + ((f + p.ln : Nat) : Int) := by rw [show (a : Int) + (f : Int) + (p.ln : Int) = (a : Int) + ((f + p.ln : Nat) : Int) by omega]; exact wrap_in (by unfold I64; omega)
        have e1 : decide ((p.ln : Int) < 1) = false := decide_eq_false (by omega)
        have e2 : decide ((wh : Int) < (p.a : Int) + (p.ln : Int)) = false := decide_eq_false (by omega)
        clear q4
        clear hO2 c hb hbb kk hp hg2 hch hdr q8 q1 hwh hpm hb5 hk5 hW5
        go_upto_region 10 with (fail)
        rw [← HW5.out]
        have w50 : W5.cell? ⟨wr.heap.size, 0, none⟩ = some (.int .i64 (p.ix : Int)) := HK5.out.cell 0
        have v0 : W5.cell? ⟨w.heap.size, 0, none⟩ = some (.int .i64 (Z : Int)) := (HK.out _ (HBB.out.trans (HB5.out.mono (by have := HBB.out.size; omega)))).cell 0
        have v1 : W5.cell? ⟨w.heap.size, 1, none⟩ = some (.int .i64 (O : Int)) := (HK.out _ (HBB.out.trans (HB5.out.mono (by have := HBB.out.size; omega)))).cell 1
        clear k0 k1 k2 k3 c0 c1 c2 c3
        go_wp2_with fail
        refine (HWH.out _).mono ?_
        rintro e w6 ⟨he, b6⟩
        obtain rfl : e = .returned (.tuple #[.int .i64 (wh : Int), .nilIface]) := he
        have k6 := HK5.out.of (b6.block _ HK5.out.lt)
        have x0 : w6.cell? ⟨wr.heap.size, 0, none⟩ = some (.int .i64 (p.ix : Int)) := k6.cell 0
        have x1 : w6.cell? ⟨wr.heap.size, 1, none⟩ = some (.int .i64 (p.a : Int)) := k6.cell 1
        have x2 : w6.cell? ⟨wr.heap.size, 2, none⟩ = some (.int .i64 (p.ln : Int)) := k6.cell 2
        have x3 : w6.cell? ⟨wr.heap.size, 3, none⟩ = some (.int .i64 (f : Int)) := k6.cell 3
        have hb6 := HB5.out.trans (b6.mono HB5.out.size)
        have kk := HK.out _ (HBB.out.trans (hb6.mono (by have := HBB.out.size; omega)))
        have k1 : w6.cell? ⟨w.heap.size, 1, none⟩ = some (.int .i64 O) := kk.cell 1
        have k2 : w6.cell? ⟨w.heap.size, 2, none⟩ = some (.int .i64 a) := kk.cell 2
        have HB6 := Lib.hid hb6
        clear b6 k6 hb6 kk w50 v0 v1
        go_wp2
        exact ⟨⟨k + 1, f + p.ln, by omega, by go_num, by simp, by omega, HQ8.out, HB.out.trans (HB6.out.mono HB.out.size)⟩, by simp only [intS]; omega⟩
      · obtain rfl : k = l.length := by omega
        rw [List.drop_length] at hch
        have hfm : f = m := hch
        subst hfm
        have dl : decide ((l.length : Int) < (l.length : Int)) = false := decide_eq_false (by omega)
        have hwe : IntKind.i64.wrap ((a : Int) + (f : Int)) = (a : Int) + (f : Int) := wrap_in (by unfold I64; omega)
        clear hb hbb kk hch
        go_wp2
        go_ret
        exact ⟨rfl, HB0.out _ HBB.out⟩
end Go.Proofs.Ytjnkfpnjdnknnaa
