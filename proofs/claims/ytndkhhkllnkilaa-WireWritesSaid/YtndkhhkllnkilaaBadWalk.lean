/-
  The law WireBad, walked: it returns true and changes nothing that was there. No condition.
-/
import Derived.Test.YtndkhhkllnkilaaAliveW
import Derived.Deep.LoopGhost
namespace Go.Proofs.Ytndkhhkllnkilaa
open Go.RowKit
set_option linter.unusedSimpArgs false
set_option linter.unusedVariables false
theorem spoilt_to (k : Int) : RD.spoilt.to k = RD.spoilt := by
  have h1 : RD.spoilt.take 1 = RD.spoilt := by kernel_rfl
  have h2 : RD.spoilt.flagTo = RD.spoilt := by kernel_rfl
  have h3 : RD.spoilt.bytesTo = RD.spoilt := by kernel_rfl
  have h5 : RD.spoilt.numsTo = RD.spoilt := by kernel_rfl
  have h8 : RD.spoilt.take 8 = RD.spoilt := by kernel_rfl
  unfold RD.to
  simp only [h1, h2, h3, h5, h8, ite_self]
theorem RTo.go {w0 w w' : World} {base : Nat} {F : List Nat} {p : Option Addr} {s s' : RD} (h : Rd w base F p s) (hb : Below base w0 w) (hs : base ≤ w.heap.size) (t : RTo w base F p s' w') : ∃ F', Rd w' base F' p s' ∧ Below base w0 w' := by
  obtain ⟨F', h1, h2, h3⟩ := t
  exact ⟨F', h1, hb.trans (h2.below h.over hs)⟩
theorem BTo.go {w0 w w' : World} {base g : Nat} {F : List Nat} {p : Option Addr} {s s' t t' : RD} (h : Both w base F p s g t) (hb : Below base w0 w) (hs : base ≤ w.heap.size) (r : BTo w base F p s' g t' w') : ∃ F', Both w' base F' p s' g t' ∧ Below base w0 w' := by
  obtain ⟨F', h1, h2, h3⟩ := r
  refine ⟨F', h1, hb.trans (h2.below (fun k hk => ?_) hs)⟩
  rcases List.mem_cons.1 hk with rfl | hk
  · exact h.mr.over
  · exact h.rd.over k hk
theorem ref_zero (w : World) : (zeroValue 42).run Try.prog w = .ok (.agg #[.slice none 0 0, .bool false]) w := by kernel_rfl
theorem RD.flagTo_le (s : RD) : s.flagTo.bs.length ≤ s.bs.length := by
  have := RD.to_le s 2
  simpa [RD.to] using this
theorem wireBad_walk (A0 : Option Addr) (n0 c0 : Nat) (b0 : List Nat) (m0 : n0 ≤ c0 ∧ c0 ≤ 9223372036854775807) {w : World} (hb : Bytes w w.heap.size A0 n0 b0) (A1 : Option Addr) (n1 c1 : Nat) (ks : List Int) (m1 : n1 ≤ c1 ∧ c1 ≤ 9223372036854775807) (hk : Ints w w.heap.size A1 n1 ks) :
    Calls Try.prog 7 #[.slice A0 n0 c0, .slice A1 n1 c1] w fun e w' => e = .returned (.bool true) ∧ Below w.heap.size w w' := by
  have HB := Lib.hid hb
  have HK := Lib.hid hk
  have hz := ref_zero
  clear hb hk
  go_enter Try.func7, Try.ntmps7
  go_wp2_with fail
  refine (alive_any _).mono ?_
  rintro e w1 ⟨rfl, b1⟩
  by_cases hn0 : n0 ≤ 3000
  · have hd0 : decide (3000 < (n0 : Int)) = false := decide_eq_false (by omega)
    by_cases hn1 : n1 ≤ 60
    · have hd1 : decide (60 < (n1 : Int)) = false := decide_eq_false (by omega)
      have B1 := Lib.hid b1
      have HB1 := HB.out.below b1
      clear b1
      go_wp2_with fail
      refine (newr_any A0 n0 c0 b0 w1 _ (by omega) HB1).mono ?_
      rintro e w2 ⟨g, F, rfl, R2, b2⟩
      have hlb := HB1.len
      have B2 := Lib.hid (B1.out.trans (b2.mono B1.out.size))
      have R2' : Rd w2 w.heap.size F (some ⟨g, 0, none⟩) ⟨b0, false⟩ := by
        rcases R2 with ⟨h, _⟩ | ⟨g', hg, A, c, e1, e2, e3, e4, e5, e6, e7, e8⟩
        · cases h
        · exact .inr ⟨g', hg, A, c, e1, e2, e3, e4, e5, Nat.le_trans B1.out.size e6, fun a ha => ⟨Nat.le_trans B1.out.size (e7 a ha).1, (e7 a ha).2⟩, e8⟩
      have H2 := Lib.hid R2'
      clear R2 R2' b2 HB1 hd0 hd1
      go_wp2_with fail
      refine (rbytes_any w2 w.heap.size F _ _ H2.out B2.out.size (by simp; omega)).mono ?_
      rintro e w3 ⟨v, F3, rfl, -, r3, o3, f3, -, -⟩
      have B3 := Lib.hid (B2.out.trans (o3.below H2.out.over B2.out.size))
      have hl3 : (RD.bytesTo ⟨b0, false⟩).bs.length ≤ 3000 := by
        have := RD.to_le ⟨b0, false⟩ 3
        simp [RD.to] at this
        omega
      have H3 := Lib.hid r3
      generalize RD.bytesTo ⟨b0, false⟩ = s3 at *
      clear r3 o3 f3 H2 B2
      go_wp2
      go_loopg [25] n0 (fun gk i wr => ∃ (k : Nat) (s : RD) (F : List Nat), k ≤ n0 ∧ gk = n0 - k ∧ i = .int .i64 k ∧ Rd wr w.heap.size F (some ⟨g, 0, none⟩) s ∧ Below w.heap.size w wr ∧ s.bs.length ≤ 3000)
      case atStart => exact ⟨0, s3, F3, by omega, by omega, rfl, H3.out, B3.out, hl3⟩
      case round =>
        obtain ⟨k, s, F4, hk, rfl, rfl, hr, hbl, hsl⟩ := hrel
        have HR := Lib.hid hr
        have Hbl := Lib.hid hbl
        clear hr hbl H3 B3
        by_cases hlt : k < n0
        · have hlf := left_any wr w.heap.size F4 _ s HR.out
          by_cases hc : 0 < s.bs.length ∧ s.bs.length < n0
          · have hd2 : decide (0 < (s.bs.length : Int)) = true := decide_eq_true (by omega)
            have hd3 : decide ((s.bs.length : Int) < (n0 : Int)) = true := decide_eq_true (by omega)
            go_wp2_with fail
            refine hlf.mono ?_
            rintro e w5 ⟨he, hw⟩
            subst he
            subst hw
            go_wp2_with fail
            refine hlf.mono ?_
            rintro e w5 ⟨he, hw⟩
            subst he
            subst hw
            go_wp2_with fail
            refine (rflag_any wr w.heap.size F4 _ s HR.out Hbl.out.size).mono ?_
            rintro e w5 ⟨rfl, r5⟩
            obtain ⟨F5, r5, b5⟩ := RTo.go HR.out Hbl.out Hbl.out.size r5
            have hle := RD.flagTo_le s
            have HH := Lib.hid (And.intro r5 b5)
            clear r5 b5 hlf
            go_wp2
            go_roundg (n0 - (k + 1))
            case measure => omega
            case rel => exact ⟨k + 1, _, F5, by omega, rfl, by go_num, HH.out.1, HH.out.2, by omega⟩
          · by_cases hc0 : 0 < s.bs.length
            · have hd2 : decide (0 < (s.bs.length : Int)) = true := decide_eq_true (by omega)
              have hd3 : decide ((s.bs.length : Int) < (n0 : Int)) = false := decide_eq_false (by omega)
              go_wp2_with fail
              refine hlf.mono ?_
              rintro e w5 ⟨he, hw⟩
              subst he
              subst hw
              go_wp2_with fail
              refine hlf.mono ?_
              rintro e w5 ⟨he, hw⟩
              subst he
              subst hw
              go_wp2
              go_roundg (n0 - (k + 1))
              case measure => omega
              case rel => exact ⟨k + 1, s, F4, by omega, rfl, by go_num, HR.out, Hbl.out, hsl⟩
            · have hd2 : decide (0 < (s.bs.length : Int)) = false := decide_eq_false (by omega)
              go_wp2_with fail
              refine hlf.mono ?_
              rintro e w5 ⟨he, hw⟩
              subst he
              subst hw
              go_wp2
              go_roundg (n0 - (k + 1))
              case measure => omega
              case rel => exact ⟨k + 1, s, F4, by omega, rfl, by go_num, HR.out, Hbl.out, hsl⟩
        · have hlf := left_any wr w.heap.size F4 _ s HR.out
          by_cases hc0 : 0 < s.bs.length
          · have hd2 : decide (0 < (s.bs.length : Int)) = true := decide_eq_true (by omega)
            go_wp2_with fail
            refine hlf.mono ?_
            rintro e w5 ⟨he, hw⟩
            subst he
            subst hw
            go_wp2
            go_ret
            exact ⟨rfl, Hbl.out⟩
          · have hd2 : decide (0 < (s.bs.length : Int)) = false := decide_eq_false (by omega)
            have hto : s.take 8 = RD.spoilt := (RD.take_un (s := s) (n := 8) (.inr (.inl (by omega)))).1
            go_wp2_with fail
            refine hlf.mono ?_
            rintro e w5 ⟨he, hw⟩
            subst he
            subst hw
            go_wp2_with fail
            refine (rnum_any wr w.heap.size F4 _ s HR.out Hbl.out.size).mono ?_
            rintro e w5 ⟨rfl, r5⟩
            rw [hto] at r5
            obtain ⟨F5, r5, b5⟩ := RTo.go HR.out Hbl.out Hbl.out.size r5
            have M5 : Mr (w5.alloc (.cells #[.slice none 0 0, .bool true] 42)) w.heap.size w5.heap.size RD.spoilt := ⟨none, 0, Blk.new _ _ _, ⟨Reads.none_, fun b hb => by cases hb⟩, Nat.le_refl _, by simp [maxLen], b5.size, RD.spoilt_good⟩
            have T5 : Both (w5.alloc (.cells #[.slice none 0 0, .bool true] 42)) w.heap.size F5 (some ⟨g, 0, none⟩) RD.spoilt w5.heap.size RD.spoilt := ⟨r5.below (below_alloc _ _), M5, fun hm => by have := r5.under _ hm; omega⟩
            have HH := Lib.hid (And.intro T5 (b5.alloc b5.size (.cells #[.slice none 0 0, .bool true] 42)))
            clear r5 b5 M5 T5 hlf HR Hbl hd2 hc0
            go_wp2
            generalize w5.alloc (.cells #[.slice none 0 0, .bool true] 42) = w6 at *
            generalize w5.heap.size = gm at *
            go_loopg [49] n1 (fun gk i wr => ∃ (k : Nat) (F : List Nat), k ≤ n1 ∧ gk = n1 - k ∧ i = .int .i64 k ∧ Both wr w.heap.size F (some ⟨g, 0, none⟩) RD.spoilt gm RD.spoilt ∧ Below w.heap.size w wr)
            case atStart => exact ⟨0, F5, by omega, by omega, rfl, HH.out.1, HH.out.2⟩
            case round =>
              obtain ⟨k, F6, hk, rfl, rfl, ht, hbl⟩ := hrel
              clear HH
              by_cases hlt : k < n1
              · obtain ⟨ad, x, rfl, hx, hc⟩ := (show Ints wr w.heap.size A1 n1 ks from ⟨HK.out.1, (Reads.below HK.out hbl).2⟩).at_ hlt
                have HT := Lib.hid (And.intro ht hbl)
                have hks : (k : Int) < (n1 : Int) := by omega
                have hk0 : (0 : Int) ≤ (k : Int) := by omega
                clear ht hbl hx
                go_wp2_with fail
                refine (read_any wr w.heap.size F6 _ RD.spoilt gm RD.spoilt x HT.out.1 HT.out.2.size (by simp [RD.spoilt]) (by simp [RD.spoilt])).mono ?_
                rintro e w7 ⟨b, rfl, hbe, t7⟩
                obtain rfl := hbe rfl
                rw [spoilt_to] at t7
                obtain ⟨F7, t7, b7⟩ := BTo.go HT.out.1 HT.out.2 HT.out.2.size t7
                have HU := Lib.hid (And.intro t7 b7)
                clear t7 b7 HT hc
                go_wp2_with fail
                refine (left_any w7 w.heap.size F7 _ _ HU.out.1.rd).mono ?_
                rintro e w8 ⟨he, hw⟩
                subst he
                subst hw
                go_wp2_with fail
                refine (rend_any w7 w.heap.size F7 _ _ HU.out.1.rd).mono ?_
                rintro e w8 ⟨he, hw⟩
                subst he
                subst hw
                simp only [RD.spoilt, Bool.true_or, if_true, errV]
                go_wp2
                go_roundg (n1 - (k + 1))
                case measure => omega
                case rel => exact ⟨k + 1, F7, by omega, rfl, by go_num, HU.out.1, HU.out.2⟩
              · go_wp2_with fail
                refine (rend_any wr w.heap.size F6 _ _ ht.rd).mono ?_
                rintro e w8 ⟨he, hw⟩
                subst he
                subst hw
                simp only [RD.spoilt, Bool.true_or, if_true]
                go_wp2_with fail
                refine (is_any 2 2 wr).mono ?_
                rintro e w8 ⟨he, hw⟩
                subst he
                subst hw
                go_wp2
                go_ret
                exact ⟨rfl, hbl⟩
    · have hd1 : decide (60 < (n1 : Int)) = true := decide_eq_true (by omega)
      go_wp2
      go_ret
      exact ⟨rfl, b1⟩
  · have hd0 : decide (3000 < (n0 : Int)) = true := decide_eq_true (by omega)
    go_wp2
    go_ret
    exact ⟨rfl, b1⟩
end Go.Proofs.Ytndkhhkllnkilaa
