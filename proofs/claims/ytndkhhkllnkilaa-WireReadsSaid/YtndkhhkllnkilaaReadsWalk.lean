/-
  The law WireReads, walked: it returns true and changes nothing that was there. No condition.
-/
import Derived.Test.YtndkhhkllnkilaaBadWalk
import Derived.Test.YtndkhhkllnkilaaCopyW
namespace Go.Proofs.Ytndkhhkllnkilaa
open Go.RowKit
set_option linter.unusedSimpArgs false
set_option linter.unusedVariables false
set_option maxHeartbeats 1000000 in
theorem wireReads_walk (A0 : Option Addr) (n0 c0 : Nat) (b0 : List Nat) (m0 : n0 ≤ c0 ∧ c0 ≤ 9223372036854775807) {w : World} (hb : Bytes w w.heap.size A0 n0 b0) (A1 : Option Addr) (n1 c1 : Nat) (ks : List Int) (m1 : n1 ≤ c1 ∧ c1 ≤ 9223372036854775807) (hk : Ints w w.heap.size A1 n1 ks) :
    Calls Try.prog 4 #[.slice A0 n0 c0, .slice A1 n1 c1] w fun e w' => e = .returned (.bool true) ∧ Below w.heap.size w w' := by
  have HB := Lib.hid hb
  have HK := Lib.hid hk
  have hz := ref_zero
  clear hb hk
  go_enter Try.func4, Try.ntmps4
  go_wp2_with fail
  refine (alive_any _).mono ?_
  rintro e w1 ⟨rfl, b1⟩
  by_cases hn0 : n0 ≤ 3000
  · have hd0 : decide (3000 < (n0 : Int)) = false := decide_eq_false (by omega)
    by_cases hn1 : n1 ≤ 60
    · have hd1 : decide (60 < (n1 : Int)) = false := decide_eq_false (by omega)
      have B1 := Lib.hid b1
      have HB1 := HB.out.below b1
      have hlb := HB1.len
      clear b1
      go_wp2_with fail
      refine (copy_any A0 n0 c0 b0 w1 (by omega) (HB1.more B1.out.size)).mono ?_
      rintro e w2 ⟨gc, cap, rfl, hcap, hgc, hown, b2⟩
      have B2 := Lib.hid (B1.out.trans (b2.mono B1.out.size))
      have hmine := mine_bytes hown HB1
      have hownc := Lib.hid (mine_own hown hlb)
      have hgc2 : gc < w2.heap.size := (World.ownsRow.lt hown gc rfl).2
      clear hown b2 hd0 hd1
      go_wp2_with fail
      refine (newr_any (some ⟨gc, 0, none⟩) n0 cap b0 w2 _ (by omega) hmine).mono ?_
      rintro e w3 ⟨g, F, rfl, R3, b3⟩
      have B3 := Lib.hid (B2.out.trans (b3.mono B2.out.size))
      have hgF : gc ∉ F := fun hm => by have := R3.over _ hm; omega
      have R3' : Rd w3 w.heap.size F (some ⟨g, 0, none⟩) ⟨b0, false⟩ := by
        rcases R3 with ⟨h, _⟩ | ⟨g', hg, A, c, e1, e2, e3, e4, e5, e6, e7, e8⟩
        · cases h
        · exact .inr ⟨g', hg, A, c, e1, e2, e3, e4, e5, Nat.le_trans B2.out.size e6, fun a ha => ⟨Nat.le_trans B2.out.size (e7 a ha).1, (e7 a ha).2⟩, e8⟩
      have HO := Lib.hid ((hownc.out.below b3).alloc (.cells #[.slice A0 n0 c0, .bool false] 42))
      have M3 : Mr (w3.alloc (.cells #[.slice A0 n0 c0, .bool false] 42)) w.heap.size w3.heap.size ⟨b0, false⟩ :=
        ⟨A0, c0, by simpa [hlb] using Blk.new w3 42 #[.slice A0 n0 c0, .bool false], by rw [hlb]; exact HB.out.below (B3.out.alloc B3.out.size _), by simp only; omega, by simp only [maxLen]; omega, B3.out.size, ⟨fun e => (by cases e), HB1.2⟩⟩
      have T3 : Both (w3.alloc (.cells #[.slice A0 n0 c0, .bool false] 42)) w.heap.size F (some ⟨g, 0, none⟩) ⟨b0, false⟩ w3.heap.size ⟨b0, false⟩ := ⟨R3'.below (below_alloc _ _), M3, fun hm => by have := R3'.under _ hm; omega⟩
      have HT := Lib.hid T3
      have HB4 := Lib.hid (B3.out.alloc B3.out.size (.cells #[.slice A0 n0 c0, .bool false] 42))
      have hw1 : w.heap.size ≤ w1.heap.size := B1.out.size
      have hgm : gc ≠ w3.heap.size := by have := b3.size; omega
      have hb256 := HB1.2
      clear R3 R3' b3 M3 T3 hmine hownc B3 B2 B1 HB1
      go_wp2_with fail
      generalize w3.alloc (.cells #[.slice A0 n0 c0, .bool false] 42) = w4 at *
      generalize w3.heap.size = gm at *
      refine (over_any w4 w1.heap.size _ n0 b0 HO.out hb256 (by omega)).mono ?_
      rintro e w5 ⟨rfl, o5⟩
      have hrow : rowOf (.slice (some ⟨gc, 0, none⟩) n0 cap) = [gc] := rfl
      rw [hrow] at o5
      have hwgc : w.heap.size ≤ gc := by omega
      have T5 : Both w5 w.heap.size F (some ⟨g, 0, none⟩) ⟨b0, false⟩ gm ⟨b0, false⟩ :=
        ⟨HT.out.rd.of o5.size (fun k hk => o5.block k (HT.out.rd.under k hk) (fun hm => by simp at hm; subst hm; exact hgF hk)),
         HT.out.mr.of (o5.below (fun k hk => by simp at hk; omega) HB4.out.size) (o5.block gm HT.out.mr.lt (fun hm => by simp at hm; exact hgm hm.symm)), HT.out.apart⟩
      have B5 := HB4.out.trans (o5.below (fun k hk => by simp at hk; omega) HB4.out.size)
      have HH := Lib.hid (And.intro T5 B5)
      clear T5 B5 o5 HT HB4 HO
      go_wp2
      go_loopg [33] n1 (fun gk i wr => ∃ (k : Nat) (s : RD) (F : List Nat), k ≤ n1 ∧ gk = n1 - k ∧ i = .int .i64 k ∧ Both wr w.heap.size F (some ⟨g, 0, none⟩) s gm s ∧ Below w.heap.size w wr ∧ s.bs.length ≤ 3000)
      case atStart => exact ⟨0, _, F, by omega, by omega, rfl, HH.out.1, HH.out.2, by simp only; omega⟩
      case round =>
        obtain ⟨k, s, F6, hk, rfl, rfl, ht, hbl, hsl⟩ := hrel
        clear HH
        by_cases hlt : k < n1
        · obtain ⟨ad, x, rfl, hx, hc⟩ := (show Ints wr w.heap.size A1 n1 ks from ⟨HK.out.1, (Reads.below HK.out hbl).2⟩).at_ hlt
          have HT := Lib.hid (And.intro ht hbl)
          have hks : (k : Int) < (n1 : Int) := by omega
          have hk0 : (0 : Int) ≤ (k : Int) := by omega
          clear ht hbl hx
          go_wp2_with fail
          refine any_begin (by kernel_rfl) ?_
          refine wpAny_take (i := 0) (v := .pointer (some ⟨g, 0, none⟩)) rfl (by kernel_rfl) (by kernel_rfl) (by kernel_rfl) (fun _ _ _ h => h) (Or.inl ⟨by rfl, fun w => by kernel_rfl⟩) ?_
          simp only [Act.put, List.getElem_toArray, List.getElem_cons_succ, List.getElem_cons_zero, List.setIfInBounds_toArray, List.set_cons_zero, List.set_cons_succ]
          refine wpAny_take (i := 1) (v := .pointer (some ⟨gm, 0, none⟩)) rfl (by kernel_rfl) (by kernel_rfl) (by kernel_rfl) (fun _ _ _ h => h) (Or.inl ⟨by rfl, fun w => by kernel_rfl⟩) ?_
          simp only [Act.put, List.getElem_toArray, List.getElem_cons_succ, List.getElem_cons_zero, List.setIfInBounds_toArray, List.set_cons_zero, List.set_cons_succ]
          refine wpAny_take (i := 2) (v := .int .i64 x) rfl (by kernel_rfl) (by kernel_rfl) (by kernel_rfl) (fun _ _ _ h => h) (Or.inl ⟨by rfl, fun w => by kernel_rfl⟩) ?_
          simp only [Act.put, List.getElem_toArray, List.getElem_cons_succ, List.getElem_cons_zero, List.setIfInBounds_toArray, List.set_cons_zero, List.set_cons_succ]
          refine do_one (i := 3) (by kernel_rfl) rfl (by rfl) ?_
          simp only [Act.put, List.getElem_toArray, List.getElem_cons_succ, List.getElem_cons_zero, List.setIfInBounds_toArray, List.set_cons_zero, List.set_cons_succ]
          refine wp_called (by kernel_rfl) (read_any _ w.heap.size F6 _ s gm s x (HT.out.1.below (Below.refl _ _).drew) HT.out.2.size (by omega) (by omega)) ?_
          rintro e w7 ⟨b, rfl, hbe, t7⟩
          obtain rfl := hbe rfl
          obtain ⟨F7, t7, b7⟩ := BTo.go (HT.out.1.below (Below.refl _ _).drew) HT.out.2.drew HT.out.2.size t7
          have hle := RD.to_le s x
          have hlf := left_any w7 w.heap.size F7 _ _ t7.rd
          have hen := rend_any w7 w.heap.size F7 _ _ t7.rd
          have HU := Lib.hid (And.intro t7 b7)
          obtain ⟨A7, c7, k7, -⟩ := t7.mr
          generalize hgs : s.to x = s7 at *
          have q0 : w7.cell? ⟨gm, 0, none⟩ = some (.slice A7 s7.bs.length c7) := by rw [k7.cell]; rfl
          have q1 : w7.cell? ⟨gm, 1, none⟩ = some (.bool s7.bad) := by rw [k7.cell]; rfl
          clear k7 t7 b7 hc
          refine ⟨_, rfl, ?_⟩
          simp only [Act.put, List.getElem_toArray, List.getElem_cons_succ, List.getElem_cons_zero, List.setIfInBounds_toArray, List.set_cons_zero, List.set_cons_succ]
          refine do_one (i := 4) (by kernel_rfl) rfl (by rfl) ?_
          simp only [Act.put, List.getElem_toArray, List.getElem_cons_succ, List.getElem_cons_zero, List.setIfInBounds_toArray, List.set_cons_zero, List.set_cons_succ]
          refine wp_ran (v := .bool false) (w' := w7) (by kernel_rfl) ?_
          simp only [Act.put, List.getElem_toArray, List.getElem_cons_succ, List.getElem_cons_zero, List.setIfInBounds_toArray, List.set_cons_zero, List.set_cons_succ]
          refine do_one (i := 5) (by kernel_rfl) rfl (by rfl) ?_
          simp only [Act.put, List.getElem_toArray, List.getElem_cons_succ, List.getElem_cons_zero, List.setIfInBounds_toArray, List.set_cons_zero, List.set_cons_succ]
          refine wp_ran (v := .bool false) (w' := w7) (by kernel_rfl) ?_
          simp only [Act.put, List.getElem_toArray, List.getElem_cons_succ, List.getElem_cons_zero, List.setIfInBounds_toArray, List.set_cons_zero, List.set_cons_succ]
          refine any_of_L (S := fun w' => w'.cell? ⟨gm, 0, none⟩ = some (.slice A7 s7.bs.length c7)) (L := 99) _ _ _ _ ?_
          refine S_take (i := 6) (v := .pointer (some ⟨g, 0, none⟩)) rfl rfl (by kernel_rfl) (by kernel_rfl) (by kernel_rfl) (fun _ _ _ h => h) (Or.inl ⟨by rfl, fun w _ => by kernel_rfl⟩) q0 ?_
          simp only [Act.put, List.getElem_toArray, List.getElem_cons_succ, List.getElem_cons_zero, List.setIfInBounds_toArray, List.set_cons_zero, List.set_cons_succ]
          refine S_take (i := 8) (v := .pointer (some ⟨gm, 0, none⟩)) rfl rfl (by kernel_rfl) (by kernel_rfl) (by kernel_rfl) (fun _ _ _ h => h) (Or.inl ⟨by rfl, fun w _ => by kernel_rfl⟩) q0 ?_
          simp only [Act.put, List.getElem_toArray, List.getElem_cons_succ, List.getElem_cons_zero, List.setIfInBounds_toArray, List.set_cons_zero, List.set_cons_succ]
          refine S_take (i := 9) (v := .pointer (some ⟨gm, 0, none⟩)) rfl rfl (by kernel_rfl) (by kernel_rfl) (by kernel_rfl) (fun _ _ _ h => h) (Or.inl ⟨by rfl, fun w _ => by go_simp⟩) q0 ?_
          simp only [Act.put, List.getElem_toArray, List.getElem_cons_succ, List.getElem_cons_zero, List.setIfInBounds_toArray, List.set_cons_zero, List.set_cons_succ]
          refine S_take (i := 10) (v := .pointer (some ⟨gm, 0, none⟩)) rfl rfl (by kernel_rfl) (by kernel_rfl) (by kernel_rfl) (fun _ _ _ h => h) (Or.inl ⟨by rfl, fun w _ => by go_simp⟩) q0 ?_
          simp only [Act.put, List.getElem_toArray, List.getElem_cons_succ, List.getElem_cons_zero, List.setIfInBounds_toArray, List.set_cons_zero, List.set_cons_succ]
          refine S_take (i := 11) (v := .slice A7 s7.bs.length c7) rfl rfl (by kernel_rfl) (by kernel_rfl) (by kernel_rfl) (fun _ _ _ h => h) (Or.inl ⟨by rfl, fun w hw => by go_simp⟩) q0 ?_
          simp only [Act.put, List.getElem_toArray, List.getElem_cons_succ, List.getElem_cons_zero, List.setIfInBounds_toArray, List.set_cons_zero, List.set_cons_succ]
          refine S_take (i := 12) (v := .int .i64 s7.bs.length) rfl rfl (by kernel_rfl) (by kernel_rfl) (by kernel_rfl) (fun _ _ _ h => h) (Or.inl ⟨by rfl, fun w _ => by go_simp⟩) q0 ?_
          simp only [Act.put, List.getElem_toArray, List.getElem_cons_succ, List.getElem_cons_zero, List.setIfInBounds_toArray, List.set_cons_zero, List.set_cons_succ]
          refine L_one (j := 7) (by kernel_rfl) rfl (by rfl) ?_
          simp only [Act.put, List.getElem_toArray, List.getElem_cons_succ, List.getElem_cons_zero, List.setIfInBounds_toArray, List.set_cons_zero, List.set_cons_succ]
          refine wp_called (by kernel_rfl) hlf ?_
          rintro e w8 ⟨he, hw⟩
          subst he
          subst hw
          refine ⟨_, rfl, q0, ?_⟩
          simp only [Act.put, List.getElem_toArray, List.getElem_cons_succ, List.getElem_cons_zero, List.setIfInBounds_toArray, List.set_cons_zero, List.set_cons_succ]
          refine L_one (j := 13) (by kernel_rfl) rfl (by rfl) ?_
          simp only [Act.put, List.getElem_toArray, List.getElem_cons_succ, List.getElem_cons_zero, List.setIfInBounds_toArray, List.set_cons_zero, List.set_cons_succ]
          refine wp_ran (v := .bool false) (w' := w7) (by go_simp) ⟨q0, ?_⟩
          simp only [Act.put, List.getElem_toArray, List.getElem_cons_succ, List.getElem_cons_zero, List.setIfInBounds_toArray, List.set_cons_zero, List.set_cons_succ]
          refine L_one (j := 14) (by kernel_rfl) rfl (by rfl) ?_
          simp only [Act.put, List.getElem_toArray, List.getElem_cons_succ, List.getElem_cons_zero, List.setIfInBounds_toArray, List.set_cons_zero, List.set_cons_succ]
          refine wp_ran (v := .bool false) (w' := w7) (by kernel_rfl) ⟨q0, ?_⟩
          simp only [Act.put, List.getElem_toArray, List.getElem_cons_succ, List.getElem_cons_zero, List.setIfInBounds_toArray, List.set_cons_zero, List.set_cons_succ]
          refine L_done (by kernel_rfl) ?_
          refine NoPanic.normal ?_
          clear hlf
          have HE := Lib.hid hen
          clear hen
          cases hb : s7.bad with
          | true =>
            have hW : (s7.bad || decide (0 < s7.bs.length)) = true := by simp [hb]
            rw [hb] at q1
            have HW := Lib.hid hW
            clear hW hb
            go_wp2_with fail
            refine HE.out.mono ?_
            rintro e w8 ⟨he, hw⟩
            subst he
            subst hw
            rw [if_pos HW.out]
            simp only [errV]
            go_wp2_with fail
            refine (is_any 2 2 w7).mono ?_
            rintro e w8 ⟨he, hw⟩
            subst he
            subst hw
            go_wp2
            go_roundg (n1 - (k + 1))
            case measure => omega
            case rel => exact ⟨k + 1, s7, F7, by omega, rfl, by go_num, HU.out.1, HU.out.2, by omega⟩
          | false =>
            rw [hb] at q1
            by_cases hl : 0 < s7.bs.length
            · have hW : (s7.bad || decide (0 < s7.bs.length)) = true := by simp [hl]
              have hd : decide (0 < (s7.bs.length : Int)) = true := decide_eq_true (by omega)
              have HW := Lib.hid hW
              clear hW hb
              go_wp2_with fail
              refine HE.out.mono ?_
              rintro e w8 ⟨he, hw⟩
              subst he
              subst hw
              rw [if_pos HW.out]
              simp only [errV]
              go_wp2_with fail
              refine (is_any 2 2 w7).mono ?_
              rintro e w8 ⟨he, hw⟩
              subst he
              subst hw
              go_wp2
              go_roundg (n1 - (k + 1))
              case measure => omega
              case rel => exact ⟨k + 1, s7, F7, by omega, rfl, by go_num, HU.out.1, HU.out.2, by omega⟩
            · have hW : ¬ (s7.bad || decide (0 < s7.bs.length)) = true := by rw [hb, decide_eq_false hl]; decide
              have hd : decide (0 < (s7.bs.length : Int)) = false := decide_eq_false (by omega)
              have HW := Lib.hid hW
              clear hW hb
              go_wp2_with fail
              refine HE.out.mono ?_
              rintro e w8 ⟨he, hw⟩
              subst he
              subst hw
              rw [if_neg HW.out]
              simp only [errV]
              go_wp2
              go_roundg (n1 - (k + 1))
              case measure => omega
              case rel => exact ⟨k + 1, s7, F7, by omega, rfl, by go_num, HU.out.1, HU.out.2, by omega⟩
        · have hlf := left_any wr w.heap.size F6 _ _ ht.rd
          obtain ⟨A7, c7, k7, -⟩ := ht.mr
          have q0 : wr.cell? ⟨gm, 0, none⟩ = some (.slice A7 s.bs.length c7) := by rw [k7.cell]; rfl
          clear k7
          go_wp2_with fail
          refine any_begin (by kernel_rfl) ?_
          refine any_of_L (S := fun w' => w'.cell? ⟨gm, 0, none⟩ = some (.slice A7 s.bs.length c7)) (L := 99) _ _ _ _ ?_
          have q0' : wr.drew.cell? ⟨gm, 0, none⟩ = some (.slice A7 s.bs.length c7) := q0
          refine S_take (i := 0) (v := .pointer (some ⟨g, 0, none⟩)) rfl rfl (by kernel_rfl) (by kernel_rfl) (by kernel_rfl) (fun _ _ _ h => h) (Or.inl ⟨by rfl, fun w _ => by kernel_rfl⟩) q0' ?_
          simp only [Act.put, List.getElem_toArray, List.getElem_cons_succ, List.getElem_cons_zero, List.setIfInBounds_toArray, List.set_cons_zero, List.set_cons_succ]
          refine S_take (i := 2) (v := .pointer (some ⟨gm, 0, none⟩)) rfl rfl (by kernel_rfl) (by kernel_rfl) (by kernel_rfl) (fun _ _ _ h => h) (Or.inl ⟨by rfl, fun w _ => by kernel_rfl⟩) q0' ?_
          simp only [Act.put, List.getElem_toArray, List.getElem_cons_succ, List.getElem_cons_zero, List.setIfInBounds_toArray, List.set_cons_zero, List.set_cons_succ]
          refine S_take (i := 3) (v := .pointer (some ⟨gm, 0, none⟩)) rfl rfl (by kernel_rfl) (by kernel_rfl) (by kernel_rfl) (fun _ _ _ h => h) (Or.inl ⟨by rfl, fun w _ => by go_simp⟩) q0' ?_
          simp only [Act.put, List.getElem_toArray, List.getElem_cons_succ, List.getElem_cons_zero, List.setIfInBounds_toArray, List.set_cons_zero, List.set_cons_succ]
          refine S_take (i := 4) (v := .pointer (some ⟨gm, 0, none⟩)) rfl rfl (by kernel_rfl) (by kernel_rfl) (by kernel_rfl) (fun _ _ _ h => h) (Or.inl ⟨by rfl, fun w _ => by go_simp⟩) q0' ?_
          simp only [Act.put, List.getElem_toArray, List.getElem_cons_succ, List.getElem_cons_zero, List.setIfInBounds_toArray, List.set_cons_zero, List.set_cons_succ]
          refine S_take (i := 5) (v := .slice A7 s.bs.length c7) rfl rfl (by kernel_rfl) (by kernel_rfl) (by kernel_rfl) (fun _ _ _ h => h) (Or.inl ⟨by rfl, fun w hw => by go_simp⟩) q0' ?_
          simp only [Act.put, List.getElem_toArray, List.getElem_cons_succ, List.getElem_cons_zero, List.setIfInBounds_toArray, List.set_cons_zero, List.set_cons_succ]
          refine S_take (i := 6) (v := .int .i64 s.bs.length) rfl rfl (by kernel_rfl) (by kernel_rfl) (by kernel_rfl) (fun _ _ _ h => h) (Or.inl ⟨by rfl, fun w _ => by go_simp⟩) q0' ?_
          simp only [Act.put, List.getElem_toArray, List.getElem_cons_succ, List.getElem_cons_zero, List.setIfInBounds_toArray, List.set_cons_zero, List.set_cons_succ]
          refine L_one (j := 1) (by kernel_rfl) rfl (by rfl) ?_
          simp only [Act.put, List.getElem_toArray, List.getElem_cons_succ, List.getElem_cons_zero, List.setIfInBounds_toArray, List.set_cons_zero, List.set_cons_succ]
          refine wp_called (by kernel_rfl) (left_any wr.drew w.heap.size F6 _ s (ht.rd.below (Below.refl _ _).drew)) ?_
          rintro e w8 ⟨he, hw⟩
          subst he
          subst hw
          refine ⟨_, rfl, q0', ?_⟩
          simp only [Act.put, List.getElem_toArray, List.getElem_cons_succ, List.getElem_cons_zero, List.setIfInBounds_toArray, List.set_cons_zero, List.set_cons_succ]
          refine L_one (j := 7) (by kernel_rfl) rfl (by rfl) ?_
          simp only [Act.put, List.getElem_toArray, List.getElem_cons_succ, List.getElem_cons_zero, List.setIfInBounds_toArray, List.set_cons_zero, List.set_cons_succ]
          refine wp_ran (v := .bool true) (w' := wr.drew) (by go_simp) ⟨q0', ?_⟩
          simp only [Act.put, List.getElem_toArray, List.getElem_cons_succ, List.getElem_cons_zero, List.setIfInBounds_toArray, List.set_cons_zero, List.set_cons_succ]
          refine L_one (j := 8) (by kernel_rfl) rfl (by rfl) ?_
          simp only [Act.put, List.getElem_toArray, List.getElem_cons_succ, List.getElem_cons_zero, List.setIfInBounds_toArray, List.set_cons_zero, List.set_cons_succ]
          refine wp_ran (v := .bool true) (w' := wr.drew) (by kernel_rfl) ⟨q0', ?_⟩
          simp only [Act.put, List.getElem_toArray, List.getElem_cons_succ, List.getElem_cons_zero, List.setIfInBounds_toArray, List.set_cons_zero, List.set_cons_succ]
          refine L_done (by kernel_rfl) ?_
          refine NoPanic.normal ?_
          clear hlf q0 q0'
          go_wp2
          go_ret
          exact ⟨rfl, hbl.drew⟩
    · have hd1 : decide (60 < (n1 : Int)) = true := decide_eq_true (by omega)
      go_wp2
      go_ret
      exact ⟨rfl, b1⟩
  · have hd0 : decide (3000 < (n0 : Int)) = true := decide_eq_true (by omega)
    go_wp2
    go_ret
    exact ⟨rfl, b1⟩
end Go.Proofs.Ytndkhhkllnkilaa
