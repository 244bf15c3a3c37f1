/-
  The law DiskCopies, walked: it returns true and changes nothing that was there. No condition.
-/
import Derived.Test.YtgcghoalepkdfaaPlaysWalk
import Derived.Test.YtgcghoalepkdfaaCopiesT
namespace Go.Proofs.Ytgcghoalepkdfaa
open Go.RowKit
set_option linter.unusedSimpArgs false
set_option linter.unusedVariables false
set_option maxRecDepth 100000 in
set_option maxHeartbeats 8000000 in
theorem diskCopies_walk (A0 : Option Addr) (n0 c0 : Nat) (os : List OpV) (m0 : n0 ≤ 9223372036854775807) (o0 : ∀ o ∈ os, o.keep.length ≤ 9223372036854775807 ∧ -9223372036854775808 ≤ o.n ∧ o.n ≤ 9223372036854775807)
    (A1 : Option Addr) (n1 c1 : Nat) (os1 : List OpV) (m1 : n1 ≤ 9223372036854775807) (o1 : ∀ o ∈ os1, o.keep.length ≤ 9223372036854775807 ∧ -9223372036854775808 ≤ o.n ∧ o.n ≤ 9223372036854775807) {w : World} (hS : Script w w.heap.size A0 n0 os) (hS1 : Script w w.heap.size A1 n1 os1) :
    Calls Try.prog 6 #[.slice A0 n0 c0, .slice A1 n1 c1] w fun e w' => e = .returned (.bool true) ∧ Below w.heap.size w w' := by
  have HS := Lib.hid hS
  have HO := Lib.hid o0
  have HS1 := Lib.hid hS1
  have HO1 := Lib.hid o1
  clear hS o0 hS1 o1
  go_enter Try.func6, Try.ntmps6
  go_wp2_with fail
  refine (alive_any _).mono ?_
  rintro e w1 ⟨rfl, b1⟩
  have S1 := (HS.out.below b1).more2 b1.size
  go_wp2_with fail
  refine (long_any A0 n0 c0 os w1 S1 m0 (fun o ho => (HO.out o ho).1)).mono ?_
  rintro e w2 ⟨r, rfl, b2, hr⟩
  have B2 := b1.trans (b2.mono b1.size)
  clear S1 b1 b2
  cases r with
  | true =>
    go_wp2
    go_ret
    exact ⟨rfl, B2⟩
  | false =>
    obtain ⟨hn81, hk200⟩ := hr rfl
    have HK := Lib.hid hk200
    have S2 := (HS1.out.below B2).more2 B2.size
    clear hr hk200
    go_wp2_with fail
    refine (long_any A1 n1 c1 os1 w2 S2 m1 (fun o ho => (HO1.out o ho).1)).mono ?_
    rintro e w2' ⟨r, rfl, b2, hr⟩
    have B3 := B2.trans (b2.mono B2.size)
    clear S2 b2 B2
    cases r with
    | true =>
      go_wp2
      go_ret
      exact ⟨rfl, B3⟩
    | false =>
      obtain ⟨hn81', hk200⟩ := hr rfl
      have HK1 := Lib.hid hk200
      clear hr hk200
      go_wp2_with fail
      refine (new_good w2' w.heap.size 5 (by omega) (by omega) B3.size).mono ?_
      intro e w3 hm
      obtain ⟨g, rfl, h3⟩ := Holds.made B3 hm
      have H3 := Lib.hid h3
      clear hm B3 h3
      have hz := rdisk_zero2
      have hud := Try.underlying36
      go_wp2_with fail
      refine (two_new H3.out 5 (by omega) (by omega)).mono ?_
      rintro e w4 ⟨Ar, cr, rfl, h4, b4, hn4⟩
      have T4 := Lib.hid (h4.push (.cells (rv Ar cr none 0 0 (DM.new 5)).toArray 36))
      have hb : w4.heap.size ∉ blkOf Ar ++ blkOf none := fun hm => by have := h4.under _ hm; omega
      have hPl : Plays w (w4.alloc (.cells (rv Ar cr none 0 0 (DM.new 5)).toArray 36)) g w4.heap.size 5 0 [] := ⟨_, Ar, cr, none, 0, 0, Bd.new 5, T4.out, Blk.new _ _ _, h4.disk.size, hb⟩
      have PL := Lib.hid hPl
      clear h4 b4 hn4 T4 hb hPl
      go_wp2_with (refine wpList_store_newN rfl 36 (.tmp 7) (.tmp 28) rfl w4.heap.size rfl (rv Ar cr none 0 0 (DM.new 5)) _ rfl rfl rdisk_size rfl (rl_one _ _ _ _ _ _ _ _ _ _) ?_)
      generalize hw5 : w4.alloc (.cells (rv Ar cr none 0 0 (DM.new 5)).toArray 36) = w5 at *
      generalize hb7 : w4.heap.size = b7 at *
      clear hw5 hb7
      go_loopg [31] n0 (fun gk i wr => ∃ k : Nat, k ≤ n0 ∧ gk = n0 - k ∧ i = .int .i64 k ∧ Plays w wr g b7 5 k [])
      case atStart => exact ⟨0, by omega, by omega, rfl, PL.out⟩
      case round =>
        obtain ⟨k, hk, rfl, rfl, hp⟩ := hrel
        by_cases hlt : k < n0
        · obtain ⟨ad, o, rfl, hadb, ho, hc, hob, -⟩ := (HS.out.below hp.since).get hlt
          have hmem := List.mem_of_getElem? ho
          obtain ⟨-, hmin, hmax⟩ := HO.out o hmem
          have hkp := HK.out o hmem
          have hKR := (HS.out.2 o hmem).2
          obtain ⟨d, AA, c, AW, cw, l, hbd, ht, hbk, hb0, hbn⟩ := hp
          have hu := Try.underlying40
          have hi : (Try.prog.info? 40).map (·.size) = some o.cs.length := op_size
          have hzo := op_zero
          have B0 := Lib.hid (Blk.new wr 40 o.cs.toArray)
          have D0 := Lib.hid (ht.push (.cells o.cs.toArray 40))
          have E0 := Lib.hid (hbk.alloc (.cells o.cs.toArray 40))
          have hun := ht.under
          have HBD := Lib.hid hbd
          have hbl := hbk.lt
          clear ht hbk ho hbd
          go_wp2_with (first
            | (refine wpList_load_at rfl 40 (.tmp 33) rfl _ rfl o.cs _ hc hu rfl hi ?_)
            | (refine wpList_store_newN rfl 40 (.tmp 9) (.tmp 34) rfl wr.heap.size rfl o.cs _ rfl rfl hi rfl o.one ?_)
            | (refine wpList_load_blk rfl 36 (.tmp 7) rfl b7 (rv AA c AW cw l d) _ rfl E0.out hud rfl rdisk_size ?_)
            | (refine wpList_load_blk rfl 40 (.tmp 9) rfl wr.heap.size o.cs _ rfl B0.out hu rfl hi ?_))
          refine (do_any D0.out o hob (HBD.out.small (by omega)) (HBD.out.small (by omega)) hmin hmax (by omega) hKR).mono ?_
          rintro e w6 ⟨A2, c2, W2, cw2, l2, b, rfl, h6, k6, hn6, hbt⟩
          have hbd1 := HBD.out.act o hob hmax
          generalize hd1 : act o hob d = d1 at *
          have hb2 : b7 ∉ blkOf A2 ++ blkOf W2 := fun hm => by
            rcases hn6 _ hm with h | h
            · exact hbn h
            · simp at h; omega
          have F0 := Lib.hid (k6.blk (by simp) E0.out)
          have H6 := Lib.hid h6
          have HB1 := Lib.hid hbd1
          clear h6 k6 hn6 hbt B0 D0 E0 hd1 hc hbd1
          go_wp2_with (first
            | (refine wpList_store_blk rfl 36 (.tmp 7) (.tmp 40) rfl b7 _ (rv A2 c2 W2 cw2 l2 d1) rfl rfl F0.out rfl rdisk_size (rl_one _ _ _ _ _ _ _ _ _ _) ?_; intro w7 hB7 ho7 hs7))
          have H7 := (H6.out.kept (j := b7) (by simp) ho7 hb0 hb2).mono (Y := [b7]) (fun k hk => by simp at hk; simp [hk])
          have PL8 := Lib.hid (show Plays w w7 g b7 5 (k + 1) [] from ⟨d1, A2, c2, W2, cw2, l2, HB1.out, H7, hB7, hb0, hb2⟩)
          clear H7 hB7 F0 H6
          go_roundg (n0 - (k + 1))
          case measure => omega
          case rel => exact ⟨k + 1, by omega, rfl, by go_num, PL8.out⟩
        · have hk81 : k ≤ 81 := by omega
          obtain ⟨d, AA, c, AW, cw, l, hbd, ht, hbk, hb0, hbn⟩ := hp
          have HT := Lib.hid ht
          have HBK := Lib.hid hbk
          have HBD := Lib.hid hbd
          clear ht hbk hbd
          go_wp2_with fail
          have hSr : Blk wr.drew b7 36 (rv AA c AW cw l d).toArray := HBK.out
          have hcopy : ∀ W, Below wr.heap.size wr W → Calls Try.prog 27 #[.pointer (some ⟨g, 0, none⟩)] W (CopyTo W w.heap.size d) := fun W hW => by
            obtain ⟨F, ⟨gm, v, rfl, e1⟩, e2, e3⟩ := HT.out.disk
            exact copy_any W _ g gm v d (e1.below hW) (HBD.out.small (by omega)).wait (Nat.le_trans HT.out.disk.size hW.size)
          refine any_beginL (fun w' => Blk w' b7 36 (rv AA c AW cw l d).toArray) 99 (by kernel_rfl) ?_
          refine S_take (i := 0) (v := .pointer (some ⟨g, 0, none⟩)) rfl rfl (by kernel_rfl) (by kernel_rfl) (by kernel_rfl) (fun _ _ _ h => h) (Or.inl ⟨by rfl, fun w _ => by kernel_rfl⟩) hSr ?_
          simp only [Act.put, List.getElem_toArray, List.getElem_cons_succ, List.getElem_cons_zero, List.setIfInBounds_toArray, List.set_cons_zero, List.set_cons_succ]
          refine S_take (i := 2) (v := .agg (rv AA c AW cw l d).toArray) rfl rfl (by kernel_rfl) (by kernel_rfl) (by kernel_rfl) (fun _ _ _ h => h) (Or.inl ⟨by rfl, fun w hw => exec_load_blk 36 (.tmp 7) rfl _ _ _ rfl hw hud rfl rdisk_size⟩) hSr ?_
          simp only [Act.put, List.getElem_toArray, List.getElem_cons_succ, List.getElem_cons_zero, List.setIfInBounds_toArray, List.set_cons_zero, List.set_cons_succ]
          refine L_two (i := 1) (j := 3) (by kernel_rfl) rfl rfl (by rfl) (by rfl) ?_ ?_
          · simp only [Act.put, List.getElem_toArray, List.getElem_cons_succ, List.getElem_cons_zero, List.setIfInBounds_toArray, List.set_cons_zero, List.set_cons_succ]
            refine wp_called (by kernel_rfl) (hcopy _ (Below.refl _ _).drew) ?_
            rintro e wc ⟨gc, Fc, rfl, hcd, hcb, hco⟩
            have hcb' := below_drew' hcb
            have hS5 : Blk wc b7 36 _ := HBK.out.below hcb' HBK.out.lt
            refine ⟨_, rfl, hS5, ?_⟩
            simp only [Act.put, List.getElem_toArray, List.getElem_cons_succ, List.getElem_cons_zero, List.setIfInBounds_toArray, List.set_cons_zero, List.set_cons_succ]
            refine L_one (j := 3) (by kernel_rfl) rfl (by rfl) ?_
            simp only [Act.put, List.getElem_toArray, List.getElem_cons_succ, List.getElem_cons_zero, List.setIfInBounds_toArray, List.set_cons_zero, List.set_cons_succ]
            refine wp_ran (v := .pointer (some ⟨wc.heap.size, 0, none⟩)) (w' := wc.alloc (.cells (rl none 0 0 none 0 0 0 0 false false).toArray 36)) (by have q := hz wc; go_simp) ?_
            have hB11 := Blk.new wc 36 (rl none 0 0 none 0 0 0 0 false false).toArray
            have hSx := hS5.alloc (.cells (rl none 0 0 none 0 0 0 0 false false).toArray 36)
            have hbwx := hcb'.alloc hcb'.size (.cells (rl none 0 0 none 0 0 0 0 false false).toArray 36)
            have hcn : wc.heap.size ∉ Fc := fun hm => by have := hcd.under _ hm; omega
            have hcd := hcd.of (w' := wc.alloc (.cells (rl none 0 0 none 0 0 0 0 false false).toArray 36)) (fun k hk => Below.heap_alloc _ _ _ (hcd.under k hk))
            have hb7l := HBK.out.lt
            have hcs := hcb'.size
            refine ⟨hSx, ?_⟩
            generalize hwx : wc.alloc (.cells (rl none 0 0 none 0 0 0 0 false false).toArray 36) = wx at *
            clear hwx hS5 hcb hcb'
            simp only [Act.put, List.getElem_toArray, List.getElem_cons_succ, List.getElem_cons_zero, List.setIfInBounds_toArray, List.set_cons_zero, List.set_cons_succ]
            refine L_one (j := 4) (by kernel_rfl) rfl (by rfl) ?_
            simp only [Act.put, List.getElem_toArray, List.getElem_cons_succ, List.getElem_cons_zero, List.setIfInBounds_toArray, List.set_cons_zero, List.set_cons_succ]
            refine wp_yields (v := .pointer (some ⟨gc, 0, none⟩)) (by kernel_rfl) ⟨hSx, ?_⟩
            simp only [Act.put, List.getElem_toArray, List.getElem_cons_succ, List.getElem_cons_zero, List.setIfInBounds_toArray, List.set_cons_zero, List.set_cons_succ]
            refine L_one (j := 5) (by kernel_rfl) rfl (by rfl) ?_
            simp only [Act.put, List.getElem_toArray, List.getElem_cons_succ, List.getElem_cons_zero, List.setIfInBounds_toArray, List.set_cons_zero, List.set_cons_succ]
            refine wp_store_blk 36 (.tmp 11) (.tmp 45) (by rfl) wc.heap.size _ (rv AA c AW cw l d) (by rfl) (by rfl) hB11 rfl rdisk_size (rl_one _ _ _ _ _ _ _ _ _ _) ?_
            intro w9 hB9 ho9 hs9
            have hS9 := hSx.only ho9 (by simp; omega)
            refine ⟨hS9, ?_⟩
            simp only [Act.put, List.getElem_toArray, List.getElem_cons_succ, List.getElem_cons_zero, List.setIfInBounds_toArray, List.set_cons_zero, List.set_cons_succ]
            refine L_done (by kernel_rfl) ?_
            refine NoPanic.normal ?_
            have hc9 := hcd.of (fun k hk => ho9.block k (hcd.under k hk) (by simp; rintro rfl; exact hcn hk))
            have hbw9 : Below wr.heap.size wr w9 := hbwx.trans (ho9.below (fun k hk => by have hds : wr.drew.heap.size = wr.heap.size := rfl; simp at hk; omega) hbwx.size)
            have CP := Lib.hid (Plays.copy (n := 5) HBD.out HT.out HBK.out hb0 hbn hc9 hbw9 hco (by omega) hcn hB9)
            generalize hb11e : wc.heap.size = b11 at *
            clear hSr hcopy hSx hS9 hB9 hB11 hc9 hbw9 hco hcn hcd hbwx ho9 hs9 HT HBK HBD
            go_wp2_with fail
            go_loopg [48] n1 (fun gk i wx => ∃ m : Nat, m ≤ n1 ∧ gk = n1 - m ∧ i = .int .i64 m ∧ Copied w wx g gc b7 b11 k (k + m))
            case atStart => exact ⟨0, by omega, by omega, rfl, CP.out⟩
            case round =>
              rename World => wz
              obtain ⟨m, hm, rfl, rfl, hp⟩ := hrel
              by_cases hlt2 : m < n1
              · obtain ⟨ad1, o, rfl, hadb, ho, hc, hob, -⟩ := (HS1.out.below hp.since).get hlt2
                have hmem := List.mem_of_getElem? ho
                obtain ⟨-, hmin, hmax⟩ := HO1.out o hmem
                have hkp := HK1.out o hmem
                have hKR := (HS1.out.2 o hmem).2
                obtain ⟨d1, dc, BA, bc, BW, bcw, bl, AC, cc, CW, ccw, lc, F, h1, h2, h3, h4, h5, h6, h7, h8, h9, h10, h11, h12⟩ := hp
                have hu := Try.underlying40
                have hi : (Try.prog.info? 40).map (·.size) = some o.cs.length := op_size
                have hzo := op_zero
                have hX := h7.xlt
                have B0 := Lib.hid (Blk.new wz 40 o.cs.toArray)
                have hal : Below wz.heap.size wz (wz.alloc (.cells o.cs.toArray 40)) := (Below.refl _ _).alloc (Nat.le_refl _) _
                have D0 := Lib.hid (h7.push (.cells o.cs.toArray 40))
                have E0 := Lib.hid (h8.alloc (.cells o.cs.toArray 40))
                have K3 := Lib.hid (h3.of (below_keeps hal h3.under))
                have K4 := Lib.hid ((h4.below hal).more hal.size)
                have K6 := Lib.hid (h6.below hal h6.lt)
                have HX := Lib.hid (fun q hq => Nat.lt_of_lt_of_le (hX q hq) hal.size)
                have H1 := Lib.hid h1
                have H2 := Lib.hid h2
                have H12 := Lib.hid h12
                have H11 := Lib.hid h11
                have H10 := Lib.hid h10
                clear h1 h2 h3 h4 h6 h7 h8 h10 h11 h12 hX hal ho
                go_wp2_with (first
                  | (refine wpList_load_at rfl 40 (.tmp 50) rfl _ rfl o.cs _ hc hu rfl hi ?_)
                  | (refine wpList_store_newN rfl 40 (.tmp 13) (.tmp 51) rfl wz.heap.size rfl o.cs _ rfl rfl hi rfl o.one ?_)
                  | (refine wpList_load_blk rfl 36 (.tmp 11) rfl b11 (rv AC cc CW ccw lc dc) _ rfl E0.out hud rfl rdisk_size ?_)
                  | (refine wpList_load_blk rfl 40 (.tmp 13) rfl wz.heap.size o.cs _ rfl B0.out hu rfl hi ?_))
                refine (do_any D0.out o hob (H2.out.small (by omega)) (H2.out.small (by omega)) hmin hmax (by omega) hKR).mono ?_
                rintro e w6 ⟨A2, c2, W2, cw2, l2, b, rfl, h6, k6, hn6, hbt⟩
                have F0 := Lib.hid (k6.blk (by simp) E0.out)
                have T6 := Lib.hid h6
                have KX := Lib.hid k6
                have HN := Lib.hid hn6
                clear h6 k6 hn6 hbt hc
                go_wp2_with (first
                  | (refine wpList_store_blk rfl 36 (.tmp 11) (.tmp 57) rfl b11 _ (rv A2 c2 W2 cw2 l2 (act o hob dc)) rfl rfl F0.out rfl rdisk_size (rl_one _ _ _ _ _ _ _ _ _ _) ?_; intro w7 hB7 ho7 hs7))
                have PL8 := Lib.hid (Copied.step (cc := 0) (ccw := 0) (lc := 0) hmax H1.out H2.out K3.out K4.out h5 K6.out HX.out h9 H10.out H11.out H12.out T6.out KX.out HN.out hB7 ho7)
                clear hB7 F0 T6 KX HN
                go_roundg (n1 - (m + 1))
                case measure => omega
                case rel => exact ⟨m + 1, by omega, rfl, by go_num, PL8.out⟩
              · obtain ⟨d1, A2, c2, W2, cw2, l2, f1, f2, f3⟩ := hp.first
                have HP := Lib.hid hp
                have G2 := Lib.hid f2
                have G3 := Lib.hid f3
                clear f2 f3 hp
                go_wp2_with (first
                  | (refine wpList_load_blk rfl 36 (.tmp 7) rfl b7 (rv A2 c2 W2 cw2 l2 d1) _ rfl G3.out hud rfl rdisk_size ?_))
                refine (stands_any G2.out f1 (by omega) (by omega)).mono ?_
                rintro e w8 ⟨rfl, b8⟩
                obtain ⟨d3, A3, c3, W3, cw3, l3, g1, g2, g3⟩ := (HP.out.below b8).second
                have HP8 := Lib.hid (HP.out.below b8)
                have J2 := Lib.hid g2
                have J3 := Lib.hid g3
                clear g2 g3 b8
                go_wp2_with (first
                  | (refine wpListG_load_blk2 rfl 36 (.tmp 11) rfl b11 (rv A3 c3 W3 cw3 l3 d3) _ rfl J3.out hud rfl rdisk_size ?_))
                refine (stands_any J2.out g1 (by omega) (by omega)).mono ?_
                rintro e w9 ⟨rfl, b9⟩
                have hfin := HP8.out.since.trans (b9.mono HP8.out.since.size)
                go_wp2
                go_ret
                exact ⟨rfl, hfin⟩
          · simp only [Act.put, List.getElem_toArray, List.getElem_cons_succ, List.getElem_cons_zero, List.setIfInBounds_toArray, List.set_cons_zero, List.set_cons_succ]
            refine wp_ran (v := .pointer (some ⟨wr.heap.size, 0, none⟩)) (w' := wr.drew.alloc (.cells (rl none 0 0 none 0 0 0 0 false false).toArray 36)) (by have q := hz wr.drew; go_simp) ?_
            have hb7l := HBK.out.lt
            have hSy : Blk (wr.drew.alloc (.cells (rl none 0 0 none 0 0 0 0 false false).toArray 36)) b7 36 (rv AA c AW cw l d).toArray := hSr.alloc _
            have hBy : Blk (wr.drew.alloc (.cells (rl none 0 0 none 0 0 0 0 false false).toArray 36)) wr.heap.size 36 (rl none 0 0 none 0 0 0 0 false false).toArray := Blk.new wr.drew _ _
            have hby : Below wr.heap.size wr (wr.drew.alloc (.cells (rl none 0 0 none 0 0 0 0 false false).toArray 36)) := (Below.refl _ _).drew.alloc (Nat.le_refl _) _
            have hys : wr.heap.size < (wr.drew.alloc (.cells (rl none 0 0 none 0 0 0 0 false false).toArray 36)).heap.size := hBy.lt
            refine ⟨hSy, ?_⟩
            generalize hwy : wr.drew.alloc (.cells (rl none 0 0 none 0 0 0 0 false false).toArray 36) = wy at *
            clear hwy
            simp only [Act.put, List.getElem_toArray, List.getElem_cons_succ, List.getElem_cons_zero, List.setIfInBounds_toArray, List.set_cons_zero, List.set_cons_succ]
            refine L_one (j := 1) (by kernel_rfl) rfl (by rfl) ?_
            simp only [Act.put, List.getElem_toArray, List.getElem_cons_succ, List.getElem_cons_zero, List.setIfInBounds_toArray, List.set_cons_zero, List.set_cons_succ]
            refine wp_called (by kernel_rfl) (hcopy _ hby) ?_
            rintro e wx ⟨gc, Fc, rfl, hcd, hcb, hco'⟩
            have hSx := hSy.below hcb hSy.lt
            have hB11 := hBy.below hcb hBy.lt
            have hbwx := hby.trans (hcb.mono hby.size)
            have hco : Over wr.heap.size Fc := fun k hk => by have := hco' k hk; omega
            have hcn : wr.heap.size ∉ Fc := fun hm => by have := hco' _ hm; omega
            have hcs := hbwx.size
            refine ⟨_, rfl, hSx, ?_⟩
            clear hcb hby hBy hSy hco'
            simp only [Act.put, List.getElem_toArray, List.getElem_cons_succ, List.getElem_cons_zero, List.setIfInBounds_toArray, List.set_cons_zero, List.set_cons_succ]
            refine L_one (j := 4) (by kernel_rfl) rfl (by rfl) ?_
            simp only [Act.put, List.getElem_toArray, List.getElem_cons_succ, List.getElem_cons_zero, List.setIfInBounds_toArray, List.set_cons_zero, List.set_cons_succ]
            refine wp_yields (v := .pointer (some ⟨gc, 0, none⟩)) (by kernel_rfl) ⟨hSx, ?_⟩
            simp only [Act.put, List.getElem_toArray, List.getElem_cons_succ, List.getElem_cons_zero, List.setIfInBounds_toArray, List.set_cons_zero, List.set_cons_succ]
            refine L_one (j := 5) (by kernel_rfl) rfl (by rfl) ?_
            simp only [Act.put, List.getElem_toArray, List.getElem_cons_succ, List.getElem_cons_zero, List.setIfInBounds_toArray, List.set_cons_zero, List.set_cons_succ]
            refine wp_store_blk 36 (.tmp 11) (.tmp 45) (by rfl) wr.heap.size _ (rv AA c AW cw l d) (by rfl) (by rfl) hB11 rfl rdisk_size (rl_one _ _ _ _ _ _ _ _ _ _) ?_
            intro w9 hB9 ho9 hs9
            have hS9 := hSx.only ho9 (by simp; omega)
            refine ⟨hS9, ?_⟩
            simp only [Act.put, List.getElem_toArray, List.getElem_cons_succ, List.getElem_cons_zero, List.setIfInBounds_toArray, List.set_cons_zero, List.set_cons_succ]
            refine L_done (by kernel_rfl) ?_
            refine NoPanic.normal ?_
            have hc9 := hcd.of (fun k hk => ho9.block k (hcd.under k hk) (by simp; rintro rfl; exact hcn hk))
            have hbw9 : Below wr.heap.size wr w9 := hbwx.trans (ho9.below (fun k hk => by have hds : wr.drew.heap.size = wr.heap.size := rfl; simp at hk; omega) hbwx.size)
            have CP := Lib.hid (Plays.copy (n := 5) HBD.out HT.out HBK.out hb0 hbn hc9 hbw9 hco (by omega) hcn hB9)
            generalize hb11e : wr.heap.size = b11 at *
            clear hSr hcopy hSx hS9 hB9 hB11 hc9 hbw9 hco hcn hcd hbwx ho9 hs9 HT HBK HBD
            go_wp2_with fail
            go_loopg [48] n1 (fun gk i wx => ∃ m : Nat, m ≤ n1 ∧ gk = n1 - m ∧ i = .int .i64 m ∧ Copied w wx g gc b7 b11 k (k + m))
            case atStart => exact ⟨0, by omega, by omega, rfl, CP.out⟩
            case round =>
              rename World => wz
              obtain ⟨m, hm, rfl, rfl, hp⟩ := hrel
              by_cases hlt2 : m < n1
              · obtain ⟨ad1, o, rfl, hadb, ho, hc, hob, -⟩ := (HS1.out.below hp.since).get hlt2
                have hmem := List.mem_of_getElem? ho
                obtain ⟨-, hmin, hmax⟩ := HO1.out o hmem
                have hkp := HK1.out o hmem
                have hKR := (HS1.out.2 o hmem).2
                obtain ⟨d1, dc, BA, bc, BW, bcw, bl, AC, cc, CW, ccw, lc, F, h1, h2, h3, h4, h5, h6, h7, h8, h9, h10, h11, h12⟩ := hp
                have hu := Try.underlying40
                have hi : (Try.prog.info? 40).map (·.size) = some o.cs.length := op_size
                have hzo := op_zero
                have hX := h7.xlt
                have B0 := Lib.hid (Blk.new wz 40 o.cs.toArray)
                have hal : Below wz.heap.size wz (wz.alloc (.cells o.cs.toArray 40)) := (Below.refl _ _).alloc (Nat.le_refl _) _
                have D0 := Lib.hid (h7.push (.cells o.cs.toArray 40))
                have E0 := Lib.hid (h8.alloc (.cells o.cs.toArray 40))
                have K3 := Lib.hid (h3.of (below_keeps hal h3.under))
                have K4 := Lib.hid ((h4.below hal).more hal.size)
                have K6 := Lib.hid (h6.below hal h6.lt)
                have HX := Lib.hid (fun q hq => Nat.lt_of_lt_of_le (hX q hq) hal.size)
                have H1 := Lib.hid h1
                have H2 := Lib.hid h2
                have H12 := Lib.hid h12
                have H11 := Lib.hid h11
                have H10 := Lib.hid h10
                clear h1 h2 h3 h4 h6 h7 h8 h10 h11 h12 hX hal ho
                go_wp2_with (first
                  | (refine wpList_load_at rfl 40 (.tmp 50) rfl _ rfl o.cs _ hc hu rfl hi ?_)
                  | (refine wpList_store_newN rfl 40 (.tmp 13) (.tmp 51) rfl wz.heap.size rfl o.cs _ rfl rfl hi rfl o.one ?_)
                  | (refine wpList_load_blk rfl 36 (.tmp 11) rfl b11 (rv AC cc CW ccw lc dc) _ rfl E0.out hud rfl rdisk_size ?_)
                  | (refine wpList_load_blk rfl 40 (.tmp 13) rfl wz.heap.size o.cs _ rfl B0.out hu rfl hi ?_))
                refine (do_any D0.out o hob (H2.out.small (by omega)) (H2.out.small (by omega)) hmin hmax (by omega) hKR).mono ?_
                rintro e w6 ⟨A2, c2, W2, cw2, l2, b, rfl, h6, k6, hn6, hbt⟩
                have F0 := Lib.hid (k6.blk (by simp) E0.out)
                have T6 := Lib.hid h6
                have KX := Lib.hid k6
                have HN := Lib.hid hn6
                clear h6 k6 hn6 hbt hc
                go_wp2_with (first
                  | (refine wpList_store_blk rfl 36 (.tmp 11) (.tmp 57) rfl b11 _ (rv A2 c2 W2 cw2 l2 (act o hob dc)) rfl rfl F0.out rfl rdisk_size (rl_one _ _ _ _ _ _ _ _ _ _) ?_; intro w7 hB7 ho7 hs7))
                have PL8 := Lib.hid (Copied.step (cc := 0) (ccw := 0) (lc := 0) hmax H1.out H2.out K3.out K4.out h5 K6.out HX.out h9 H10.out H11.out H12.out T6.out KX.out HN.out hB7 ho7)
                clear hB7 F0 T6 KX HN
                go_roundg (n1 - (m + 1))
                case measure => omega
                case rel => exact ⟨m + 1, by omega, rfl, by go_num, PL8.out⟩
              · obtain ⟨d1, A2, c2, W2, cw2, l2, f1, f2, f3⟩ := hp.first
                have HP := Lib.hid hp
                have G2 := Lib.hid f2
                have G3 := Lib.hid f3
                clear f2 f3 hp
                go_wp2_with (first
                  | (refine wpList_load_blk rfl 36 (.tmp 7) rfl b7 (rv A2 c2 W2 cw2 l2 d1) _ rfl G3.out hud rfl rdisk_size ?_))
                refine (stands_any G2.out f1 (by omega) (by omega)).mono ?_
                rintro e w8 ⟨rfl, b8⟩
                obtain ⟨d3, A3, c3, W3, cw3, l3, g1, g2, g3⟩ := (HP.out.below b8).second
                have HP8 := Lib.hid (HP.out.below b8)
                have J2 := Lib.hid g2
                have J3 := Lib.hid g3
                clear g2 g3 b8
                go_wp2_with (first
                  | (refine wpListG_load_blk2 rfl 36 (.tmp 11) rfl b11 (rv A3 c3 W3 cw3 l3 d3) _ rfl J3.out hud rfl rdisk_size ?_))
                refine (stands_any J2.out g1 (by omega) (by omega)).mono ?_
                rintro e w9 ⟨rfl, b9⟩
                have hfin := HP8.out.since.trans (b9.mono HP8.out.since.size)
                go_wp2
                go_ret
                exact ⟨rfl, hfin⟩
end Go.Proofs.Ytgcghoalepkdfaa
