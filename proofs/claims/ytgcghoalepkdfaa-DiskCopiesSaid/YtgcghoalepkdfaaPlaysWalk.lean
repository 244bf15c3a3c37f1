/-
  The law DiskPlays, walked: it returns true and changes nothing that was there. No condition.
-/
import Derived.Test.YtgcghoalepkdfaaDoA
import Derived.Test.YtgcghoalepkdfaaStands
import Derived.Deep.LoopGhost
namespace Go.Proofs.Ytgcghoalepkdfaa
open Go.RowKit
set_option linter.unusedSimpArgs false
set_option linter.unusedVariables false
theorem Script.more2 {w : World} {B B' : Nat} {A : Option Addr} {m : Nat} {os : List OpV} (h : Script w B A m os) (hB : B ≤ B') : Script w B' A m os :=
  ⟨h.1.more hB, fun o ho => ⟨(h.2 o ho).1, (h.2 o ho).2.more hB⟩⟩
theorem wpListG_load_blk2 {P : Program} {ops : Array Oper} {rest : List Oper} {o : Oper} {a : Act} {w : World} {Q : Exit → Act → World → Prop} (hw : Region.wanted o (yielded ops a.tmps) = true) (ty : TypeId) (x : Operand) (ho : o.op = .load ty x)
    (g : Nat) (cs : List Value) (d : TypeDesc) (hx : a.eval x = .pointer (some ⟨g, 0, none⟩)) (hB : Blk w g ty cs.toArray) (hu : P.underlying ty = some d) (hd : d.isRow = true) (hi : (P.info? ty).map (·.size) = some cs.length)
    (h : wpList P ops Q rest (a.put o.dst (.agg cs.toArray)) w) : wpList P ops Q (o :: rest) a w :=
  wpListG_load_mid hw ty x ho g 0 hx cs d hB.range hu hd hi h
/-- a disk and a plain one that say the same, the plain one's struct in a block b of its own -/
def Plays (w0 w : World) (g b n k : Nat) (X : List Nat) : Prop := ∃ (d : DM) (AA : Option Addr) (c : Nat) (AW : Option Addr) (cw l : Nat), Bd d n k ∧ Two w0 w g d d (b :: X) AA c AW cw l ∧ Blk w b 36 (rv AA c AW cw l d).toArray ∧ w0.heap.size ≤ b ∧ b ∉ blkOf AA ++ blkOf AW
theorem Plays.since {w0 w : World} {g b n k : Nat} {X : List Nat} (h : Plays w0 w g b n k X) : Below w0.heap.size w0 w := by
  obtain ⟨d, AA, c, AW, cw, l, h1, h2, h3⟩ := h
  exact h2.disk.since
theorem rdisk_zero2 : ∀ w, (zeroValue 36).run Try.prog w = .ok (.agg (rl none 0 0 none 0 0 0 0 false false).toArray) w := rdisk_zero
set_option maxRecDepth 100000 in
set_option maxHeartbeats 4000000 in
theorem diskPlays_walk (x0 : Int) (mx : -9223372036854775808 ≤ x0) (ox : x0 ≤ 9223372036854775807) (A0 : Option Addr) (n0 c0 : Nat) (os : List OpV) (m0 : n0 ≤ 9223372036854775807) (o0 : ∀ o ∈ os, o.keep.length ≤ 9223372036854775807 ∧ -9223372036854775808 ≤ o.n ∧ o.n ≤ 9223372036854775807) {w : World} (hS : Script w w.heap.size A0 n0 os) :
    Calls Try.prog 3 #[.int .i64 x0, .slice A0 n0 c0] w fun e w' => e = .returned (.bool true) ∧ Below w.heap.size w w' := by
  have HS := Lib.hid hS
  have HO := Lib.hid o0
  clear hS o0
  go_enter Try.func3, Try.ntmps3
  go_wp2_with fail
  refine (alive_any _).mono ?_
  rintro e w1 ⟨rfl, b1⟩
  have S1 := (HS.out.below b1).more2 b1.size
  go_wp2_with fail
  refine (long_any A0 n0 c0 os w1 S1 m0 (fun o ho => (HO.out o ho).1)).mono ?_
  rintro e w2 ⟨r, rfl, b2, hr⟩
  have B2 := b1.trans (b2.mono b1.size)
  clear S1 b1 b2
  cases r with
  | true =>
    go_wp2
    go_ret
    exact ⟨rfl, B2⟩
  | false =>
    obtain ⟨hn81, hk200⟩ := hr rfl
    have HK := Lib.hid hk200
    clear hr hk200
    by_cases hbad : x0 < 1 ∨ 4096 < x0
    · go_wp2_with fail
      refine (new_bad w2 x0 hbad).mono ?_
      rintro e w' ⟨rfl, rfl⟩
      have his : ∀ w, Calls Try.prog 12 #[.iface 31 (.int .i64 1), .int .i64 1] w fun e w' => e = .returned (.bool true) ∧ w = w' := fun w => is_any 1 1 w
      have HIS := Lib.hid his
      clear his
      simp only [errV]
      by_cases h1 : x0 < 1
      · have hd1 : decide (x0 < 1) = true := by simpa using h1
        go_wp2_with (go_at_call 12; refine (HIS.out _).mono ?_; rintro e w' ⟨rfl, rfl⟩)
        go_ret
        exact ⟨rfl, B2⟩
      · have hd1 : decide (x0 < 1) = false := by simpa using h1
        have hd2 : decide (4096 < x0) = true := by simp; omega
        go_wp2_with (go_at_call 12; refine (HIS.out _).mono ?_; rintro e w' ⟨rfl, rfl⟩)
        go_ret
        exact ⟨rfl, B2⟩
    · obtain ⟨n, rfl⟩ := Int.eq_ofNat_of_zero_le (show 0 ≤ x0 by omega)
      have hd1 : decide ((n : Int) < 1) = false := by simp; omega
      have hd2 : decide (4096 < (n : Int)) = false := by simp; omega
      go_wp2_with fail
      refine (new_good w2 w.heap.size n (by omega) (by omega) B2.size).mono ?_
      intro e w3 hm
      obtain ⟨g, rfl, h3⟩ := Holds.made B2 hm
      have H3 := Lib.hid h3
      clear hm B2 h3
      go_wp2_with fail
      refine (hold_len H3.out).mono ?_
      rintro e w' ⟨rfl, rfl⟩
      have hln : (DM.new n).n = n := rfl
      rw [hln]
      by_cases h20 : 20 < n
      · have hd3 : decide (20 < (n : Int)) = true := by simp; omega
        go_wp2
        go_ret
        exact ⟨rfl, H3.out.since⟩
      · have hd3 : decide (20 < (n : Int)) = false := by simp; omega
        have hd4 : decide (20 < n) = false := by simp; omega
        have hz := rdisk_zero2
        have hud := Try.underlying36
        go_wp2_with fail
        refine (two_new H3.out n (by omega) (by omega)).mono ?_
        rintro e w4 ⟨A1, c1, rfl, h4, b4, hn4⟩
        have T4 := Lib.hid (h4.push (.cells (rv A1 c1 none 0 0 (DM.new n)).toArray 36))
        have hb : w4.heap.size ∉ blkOf A1 ++ blkOf none := fun hm => by have := h4.under _ hm; omega
        have hPl : Plays w (w4.alloc (.cells (rv A1 c1 none 0 0 (DM.new n)).toArray 36)) g w4.heap.size n 0 [] := ⟨_, A1, c1, none, 0, 0, Bd.new n, T4.out, Blk.new _ _ _, h4.disk.size, hb⟩
        have PL := Lib.hid hPl
        clear h4 b4 hn4 T4 hb hPl
        go_wp2_with (refine wpList_store_newN rfl 36 (.tmp 7) (.tmp 44) rfl w4.heap.size rfl (rv A1 c1 none 0 0 (DM.new n)) _ rfl rfl rdisk_size rfl (rl_one _ _ _ _ _ _ _ _ _ _) ?_)
        generalize hw5 : w4.alloc (.cells (rv A1 c1 none 0 0 (DM.new n)).toArray 36) = w5 at *
        generalize hb7 : w4.heap.size = b7 at *
        clear hw5 hb7
        go_loopg [47] n0 (fun gk i wr => ∃ k : Nat, k ≤ n0 ∧ gk = n0 - k ∧ i = .int .i64 k ∧ Plays w wr g b7 n k [])
        case atStart => exact ⟨0, by omega, by omega, rfl, PL.out⟩
        case round =>
          obtain ⟨k, hk, rfl, rfl, hp⟩ := hrel
          by_cases hlt : k < n0
          · obtain ⟨ad, o, rfl, hadb, ho, hc, hob, -⟩ := (HS.out.below hp.since).get hlt
            have hmem := List.mem_of_getElem? ho
            obtain ⟨-, hmin, hmax⟩ := HO.out o hmem
            have hkp := HK.out o hmem
            have hKR := (HS.out.2 o hmem).2
            obtain ⟨d, AA, c, AW, cw, l, hbd, ht, hbk, hb0, hbn⟩ := hp
            have hu := Try.underlying40
            have hi : (Try.prog.info? 40).map (·.size) = some o.cs.length := op_size
            have hzo := op_zero
            have B0 := Lib.hid (Blk.new wr 40 o.cs.toArray)
            have D0 := Lib.hid (ht.push (.cells o.cs.toArray 40))
            have E0 := Lib.hid (hbk.alloc (.cells o.cs.toArray 40))
            have hgs : w.heap.size ≤ wr.heap.size := ht.disk.size
            have hun := ht.under
            have HBD := Lib.hid hbd
            have hbl := hbk.lt
            clear ht hbk ho hbd
            go_wp2_with (first
              | (refine wpList_load_at rfl 40 (.tmp 49) rfl _ rfl o.cs _ hc hu rfl hi ?_)
              | (refine wpList_store_newN rfl 40 (.tmp 9) (.tmp 50) rfl wr.heap.size rfl o.cs _ rfl rfl hi rfl o.one ?_)
              | (refine wpList_load_blk rfl 36 (.tmp 7) rfl b7 (rv AA c AW cw l d) _ rfl E0.out hud rfl rdisk_size ?_)
              | (refine wpList_load_blk rfl 40 (.tmp 9) rfl wr.heap.size o.cs _ rfl B0.out hu rfl hi ?_))
            refine (do_any D0.out o hob (HBD.out.small (by omega)) (HBD.out.small (by omega)) hmin hmax (by omega) hKR).mono ?_
            rintro e w6 ⟨A2, c2, W2, cw2, l2, b, rfl, h6, k6, hn6, hbt⟩
            obtain rfl := hbt rfl
            have hbd1 := HBD.out.act o hob hmax
            generalize hd1 : act o hob d = d1 at *
            have hb2 : b7 ∉ blkOf A2 ++ blkOf W2 := fun hm => by
              rcases hn6 _ hm with h | h
              · exact hbn h
              · simp at h; omega
            have F0 := Lib.hid ((k6.blk (by simp) E0.out).alloc (.cells (rv A2 c2 W2 cw2 l2 d1).toArray 36))
            have G0 := Lib.hid (Blk.new w6 36 (rv A2 c2 W2 cw2 l2 d1).toArray)
            have H6 := Lib.hid (h6.push (.cells (rv A2 c2 W2 cw2 l2 d1).toArray 36))
            have HB1 := Lib.hid hbd1
            clear h6 k6 hn6 hbt B0 D0 E0 hd1 hc hbd1
            go_wp2_with (first
              | (refine wpList_store_newN rfl 36 (.tmp 10) (.tmp 56) rfl w6.heap.size rfl (rv A2 c2 W2 cw2 l2 d1) _ rfl rfl rdisk_size rfl (rl_one _ _ _ _ _ _ _ _ _ _) ?_)
              | (refine wpList_load_blk rfl 36 (.tmp 10) rfl w6.heap.size (rv A2 c2 W2 cw2 l2 d1) _ rfl G0.out hud rfl rdisk_size ?_)
              | (refine wpList_store_blk rfl 36 (.tmp 7) (.tmp 58) rfl b7 _ (rv A2 c2 W2 cw2 l2 d1) rfl rfl F0.out rfl rdisk_size (rl_one _ _ _ _ _ _ _ _ _ _) ?_; intro w7 hB7 ho7 hs7)
              | (refine wpListG_load_blk2 rfl 36 (.tmp 7) rfl b7 (rv A2 c2 W2 cw2 l2 d1) _ rfl hB7 hud rfl rdisk_size ?_))
            have H7 := (H6.out.kept (j := b7) (by simp) ho7 hb0 hb2).mono (Y := [b7]) (fun k hk => by simp at hk; simp [hk])
            refine (stands_any H7 HB1.out (by omega) (by omega)).mono ?_
            rintro e w8 ⟨rfl, b8⟩
            have PL8 := Lib.hid (show Plays w w8 g b7 n (k + 1) [] from ⟨d1, A2, c2, W2, cw2, l2, HB1.out, H7.below b8, hB7.below b8 hB7.lt, hb0, hb2⟩)
            clear H7 hB7 b8 F0 G0 H6
            go_wp2
            go_roundg (n0 - (k + 1))
            case measure => omega
            case rel => exact ⟨k + 1, by omega, rfl, by go_num, PL8.out⟩
          · obtain ⟨d, AA, c, AW, cw, l, hbd, ht, hbk, hb0, hbn⟩ := hp
            have HT := Lib.hid ht
            have HBK := Lib.hid hbk
            clear ht hbk
            go_wp2_with (first
              | (refine wpList_load_blk rfl 36 (.tmp 7) rfl b7 (rv AA c AW cw l d) _ rfl HBK.out hud rfl rdisk_size ?_))
            refine (stands_any HT.out hbd (by omega) (by omega)).mono ?_
            rintro e w8 ⟨rfl, b8⟩
            have hfin := HT.out.disk.since.trans (b8.mono HT.out.disk.size)
            go_wp2
            go_ret
            exact ⟨rfl, hfin⟩
end Go.Proofs.Ytgcghoalepkdfaa
