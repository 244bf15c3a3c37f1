/-
  The walk of the law SpaceOnce. Conditions: the numbers read as they are said to.
-/
import Derived.Test.YtliockcbnmbhnaaUi
import Derived.Deep.CutRange
namespace Go.Proofs.Ytliockcbnmbhnaa
open Go.RowKit Go.BigFrame
set_option linter.unusedSimpArgs false
set_option linter.unusedVariables false
theorem int_info : (Try.prog.info? 3).map (fun i => (i.zero, i.size, i.bytes)) = some (some (.int .i64 0), 1, 8) := by kernel_rfl
theorem make_ints (q : Nat) (hq : q ≤ 65536) (w : World) : (Instr.makeSlice 53 (.int .i64 q) (.int .i64 q)).run Try.prog w = .ok (.slice (some ⟨w.heap.size, 0, none⟩) q q) (w.alloc (.cells (i64s (List.replicate q 0)).toArray 3)) := by
  obtain ⟨i0, hi0, hz0, hz1, hz2⟩ := info_parts int_info
  have := run_make (P := Try.prog) w 53 3 i0 (.int .i64 0) Try.underlying53 hi0 hz0 .i64 .i64 q q (by omega) (by omega) (by rw [hz2]; omega) (by omega)
  rw [hz1] at this
  simp only [Int.toNat_natCast, Nat.mul_one] at this
  rw [this]
  have e : (Value.int .i64 0).cells = (List.replicate 1 (Value.int .i64 0)).toArray := rfl
  rw [e, made_sameB]
  simp [i64s]
theorem i64s_set (l : List Int) (j : Nat) (v : Int) : ((i64s l).toArray.setIfInBounds j (.int .i64 v)) = (i64s (l.set j v)).toArray := by simp [i64s, List.map_set]
theorem i64s_cell {W : World} {o : Nat} {ow : List Int} (h : Blk W o 3 (i64s ow).toArray) {j : Nat} {v : Int} (hj : ow[j]? = some v) : W.cell? ⟨o, j, none⟩ = some (.int .i64 v) ∧ W.frozen? ⟨o, j, none⟩ = false := by
  refine ⟨?_, h.frozen j⟩
  rw [h.cell]
  simp [i64s, hj]
theorem modq (x : Int) (q : Nat) (hq : 0 < q) (hq2 : q ≤ 1000000) : ∃ m : Nat, m < q ∧ IntKind.i64.wrap ((IntKind.u64.wrap x).tmod (q : Int)) = (m : Int) := by
  obtain ⟨y, hy, h0⟩ : ∃ y, y = IntKind.u64.wrap x ∧ 0 ≤ y := ⟨_, rfl, by rw [IntKind.wrap_u64]; omega⟩
  rw [← hy, Int.tmod_eq_emod_of_nonneg h0]
  have h1 := Int.emod_nonneg y (show (q : Int) ≠ 0 by omega)
  have h2 := Int.emod_lt_of_pos y (show (0 : Int) < q by omega)
  refine ⟨(y % (q : Int)).toNat, by omega, ?_⟩
  rw [IntKind.wrap_i64]
  omega
/-- in the midst of SpaceOnce -/
structure Onc (w W : World) (g c o m k : Nat) (A : Option Addr) (lv : Value) (ow : List Int) (ls : List (Value × List (Nat × Nat))) : Prop where
  sp : ∃ r, Sps w W g r c A (flagsOf ow)
  row : Blk W o 3 (i64s ow).toArray
  grid : Grid w W lv ls
  len : ow.length = m
  num : ls.length = k
  hist : Hist ow (ls.map (·.2))
structure Onc5 (w W : World) (g c o m k : Nat) (A : Option Addr) (lv : Value) (ow : List Int) (ls : List (Value × List (Nat × Nat))) (v : Value) (es : List (Nat × Nat)) : Prop where
  sp : ∃ r, Sps w W g r c A (flagsOf ow)
  row : Blk W o 3 (i64s ow).toArray
  grid : Grid w W lv ls
  val : OwnE W w.heap.size v (natE es)
  len : ow.length = m
  num : ls.length = k
  hist : Hist ow (ls.map (·.2) ++ [es])
theorem Onc5.app {w W W7 : World} {g c o m k : Nat} {A : Option Addr} {lv lv2 : Value} {ow : List Int} {ls : List (Value × List (Nat × Nat))} {v : Value} {es : List (Nat × Nat)} {ob : Obj} (h : Onc5 w W g c o m k A lv ow ls v es)
    (hg : (W.alloc ob).grownBy W7 lv.ownBlock) (hr : ∀ k, lv.ownBlock = some k → ∃ cs, Blk (W.alloc ob) k 36 cs) (hG : Grid w W7 lv2 (ls ++ [(v, es)])) : Onc w W7 g c o m (k + 1) A lv2 ow (ls ++ [(v, es)]) := by
  obtain ⟨r, hs⟩ := h.sp
  have ha : Below W.heap.size W (W.alloc ob) := (Below.refl _ _).alloc (Nat.le_refl _) _
  have hs6 := hs.below ha
  have hz := hs.bel.size
  refine ⟨⟨r, hs6.keepB (KeepB.grown hg hr (by decide) (by decide)) (hs6.bel.grown hg hs6.bel.size (fun j hj => (World.ownsRow.lt h.grid.own j hj).1))⟩, (h.row.alloc ob).grown hg (fun e => ?_), hG, h.len, by simp [h.num], by simpa using h.hist⟩
  obtain ⟨cs, hb⟩ := hr o e.symm
  exact (h.row.alloc ob).ne_ hb (by decide) rfl
set_option maxRecDepth 100000 in
set_option maxHeartbeats 16000000 in
theorem spaceOnce_walk {w : World} (x0 : Int) (hx1 : -9223372036854775808 ≤ x0) (hx2 : x0 ≤ 9223372036854775807) (Aa : Option Addr) (ca : Nat) (la : List Int) (m0 : la.length ≤ ca ∧ ca ≤ 9223372036854775807) (hRa : Ints w w.heap.size Aa la) (Ab : Option Addr) (cb : Nat) (lb : List Int) (m1 : lb.length ≤ cb ∧ cb ≤ 9223372036854775807) (hRb : Ints w w.heap.size Ab lb) :
    Calls Try.prog 4 #[.int .i64 x0, .slice Aa la.length ca, .slice Ab lb.length cb] w fun e w' => e = .returned (.bool true) ∧ Below w.heap.size w w' := by
  have HRA := Lib.hid hRa
  have HRB := Lib.hid hRb
  obtain ⟨m, hm2, hmx⟩ := mod200 x0
  clear hRa hRb
  go_enter Try.func4, Try.ntmps4
  go_wp2_with fail
  refine (alive_any w).mono ?_
  rintro e w1 ⟨rfl, hb1⟩
  have HB1 := Lib.hid hb1
  clear hb1
  by_cases hla : (40 : Int) < (la.length : Int)
  · have hd : decide ((40 : Int) < (la.length : Int)) = true := decide_eq_true hla
    go_wp2
    go_ret
    exact ⟨rfl, HB1.out⟩
  have hda : decide ((40 : Int) < (la.length : Int)) = false := decide_eq_false hla
  by_cases hlb : (40 : Int) < (lb.length : Int)
  · have hd : decide ((40 : Int) < (lb.length : Int)) = true := decide_eq_true hlb
    go_wp2
    go_ret
    exact ⟨rfl, HB1.out⟩
  have hdb : decide ((40 : Int) < (lb.length : Int)) = false := decide_eq_false hlb
  have HNW := Lib.hid (snew_any m (by omega) w1)
  go_wp2_with fail
  refine HNW.out.mono ?_
  rintro e w2 ⟨p, rfl, g, r, A, c, rfl, hs, hne, hg, hr, hb⟩
  have hz1 := HB1.out.size
  have HS2 := Lib.hid (show Sps w w2 g r c A (List.replicate m true) from ⟨hs, hne, HB1.out.trans (hb.mono hz1), by omega, by omega⟩)
  clear hs hne hg hr hb HNW hda hdb
  have hmk := make_ints m (by omega)
  have hbs : ∀ w : World, (Instr.buildSlice 35 0 #[]).run Try.prog w = .ok (.slice (some ⟨w.heap.size, 0, none⟩) 0 0) (w.alloc (.cells #[] 36)) := fun w => by kernel_rfl
  have h0 : Onc w ((w2.alloc (.cells (i64s (List.replicate m 0)).toArray 3)).alloc (.cells #[] 36)) g c w2.heap.size m 0 A (.slice (some ⟨w2.heap.size + 1, 0, none⟩) 0 0) (List.replicate m 0) [] := by
    have b1 : Below w2.heap.size w2 ((w2.alloc (.cells (i64s (List.replicate m 0)).toArray 3)).alloc (.cells #[] 36)) := ((Below.refl _ _).alloc (Nat.le_refl _) _).alloc (by simp) _
    have hz := HS2.out.bel.size
    have hgr := World.ownsRow_lit (base := w.heap.size) (e := 36) (size := 1) (w2.alloc (.cells (i64s (List.replicate m 0)).toArray 3)) #[] 0 (by simp; omega) (by simp [maxLen]) rfl
    rw [World.size_alloc] at hgr
    refine ⟨⟨r, ?_⟩, (Blk.new w2 3 _).alloc _, ⟨hgr, fun p hp => by cases hp⟩, by simp, rfl, ⟨fun i v hv => ?_, fun j es hj => by simp at hj, fun j es hj => by simp at hj⟩⟩
    · have := HS2.out.below b1
      rwa [show flagsOf (List.replicate m 0) = List.replicate m true from by simp [flagsOf]]
    · simp [List.getElem?_replicate] at hv
      omega
  have H0 := Lib.hid h0
  have hob := HS2.out.bel.size
  clear h0 HS2
  go_wp2_with fail
  generalize (w2.alloc (.cells (i64s (List.replicate m 0)).toArray 3)).alloc (.cells #[] 36) = w4 at *
  generalize hoo : w2.heap.size = o at *
  clear hmk hbs hmx
  go_loopw [10, 50] (fun lv i wr => ∃ (k : Nat) (ow : List Int) (ls : List (Value × List (Nat × Nat))), k ≤ la.length ∧ i = .int .i64 k ∧ Onc w wr g c o m k A lv ow ls) (fun _ i _ => la.length - (intS i).toNat)
  case atStart => exact ⟨0, _, _, by omega, rfl, H0.out⟩
  case round =>
    obtain ⟨k, ow, ls, hk, rfl, hO⟩ := hrel
    obtain ⟨wo, hwo⟩ : ∃ wo, wo = wr := ⟨_, rfl⟩
    subst hwo
    clear H0
    obtain ⟨r, hS⟩ := hO.sp
    obtain ⟨AL, cL, rfl⟩ := hO.grid.form
    have HO := Lib.hid hO
    have HS := Lib.hid hS
    clear hO hS
    by_cases hlt : k < la.length
    · obtain ⟨ad, x, rfl, hab, he, a0⟩ := (show Ints wo w.heap.size Aa la from HRA.out.below HS.out.bel).get hlt
      have HF := Lib.hid (sfree_any HS.out.at_.blk)
      have HT := Lib.hid (take_T x HS.out)
      have hwk : IntKind.i64.wrap ((k : Int) + 1) = (k : Int) + 1 := by rw [IntKind.wrap_i64]; omega
      have hcm : cnt (flagsOf ow) ≤ m := by have h1 := cnt_le (flagsOf ow); have h2 := flagsOf_len ow; have h3 := HO.out.len; omega
      clear he
      go_wp2_with fail
      refine HF.out.mono ?_
      rintro e w' ⟨rfl, rfl⟩
      go_wp2_with fail
      refine HT.out.mono ?_
      rintro e3 W3 ⟨hk3, hz3, r3, h3⟩
      clear HF HT
      rcases h3 with ⟨hneg, rfl, hs3⟩ | ⟨hbig, rfl, hs3⟩ | ⟨k3, v3, out, rfl, hle3, rfl, hv3, hch3, hs3⟩
      · have hd1 : decide ((0 : Int) ≤ x) = false := decide_eq_false (by omega)
        simp only [errV]
        have h5 : Onc5 w W3 g c o m k A (.slice AL ls.length cL) ow ls (.slice none 0 0) [] := ⟨⟨r3, hs3⟩, HO.out.row.of (hk3 _ _ _ HO.out.row (by decide) (by decide)), HO.out.grid.keep hk3, OwnE.nil _ _, HO.out.len, HO.out.num, HO.out.hist.app trivial (by simp) (Marked.none ow _ (fun i ⟨e, he, _⟩ => by simp at he))⟩
        have H5 := Lib.hid h5
        have W5x : ∃ wq, wq = W3 := ⟨_, rfl⟩
        clear hs3 hk3 h5 a0
        go_wp2_with fail
        go_loopw [75] (fun i wr => i = .int .i64 0 ∧ wr = W3) (fun i _ => 0)
        case atStart => exact ⟨rfl, by trivial⟩
        case round =>
          obtain ⟨rfl, rfl⟩ := hrel
          obtain ⟨wp, hwp⟩ : ∃ wp, wp = wr := ⟨_, rfl⟩
          subst hwp
          clear W5x
          have hbr := build_row none 0 0
          have hlw : ls.length = k := H5.out.num
          have HLW := Lib.hid hlw
          clear hlw
          go_upto_region 33 with (have _h := hbr; refine app_grid (.tmp 127) (.tmp 129) rfl rfl (.slice AL ls.length cL) ls rfl (H5.out.grid.keep (KeepT.below ((Below.refl _ _).alloc (Nat.le_refl _) _))) (.slice none 0 0) ([] : List (Nat × Nat)) (H5.out.val.under2 ((Below.refl _ _).alloc (Nat.le_refl _) _)) wp.heap.size 1 rfl ((Blk.new wp 36 #[(.slice none 0 0)]).cell 0) (by rw [HLW.out]; omega) (by obtain ⟨r, hs⟩ := H5.out.sp; have := hs.bel.size; simp; omega) ?_; intro lv2 W7 hG7 hg7 hr7; clear _h hbr)
          obtain ⟨A7, c7, rfl⟩ := hG7.form
          have h7 := H5.out.app hg7 hr7 hG7
          clear hG7 hg7 hr7
          generalize hLS : ls ++ [((.slice none 0 0), ([] : List (Nat × Nat)))] = LS at *
          have H7 := Lib.hid h7
          have hq : LS.length = k + 1 := h7.num
          obtain ⟨r7, hs7⟩ := h7.sp
          have HS7 := Lib.hid hs7
          have HQ := Lib.hid hq
          clear h7 hs7 hLS HLW hq
          by_cases hkb : k < lb.length
          · obtain ⟨ad2, y, rfl, -, -, b0⟩ := (show Ints W7 w.heap.size Ab lb from HRB.out.below HS7.out.bel).get hkb
            have hq := HQ.out
            obtain ⟨kk, hkk, hkx⟩ := modq y LS.length (by omega) (by omega)
            have hwq : IntKind.u64.wrap (LS.length : Int) = (LS.length : Int) := by rw [IntKind.wrap_u64]; omega
            have hq0 : ¬ (LS.length = 0) := by omega
            have hq1 : ¬ ((LS.length : Int) = 0) := by omega
            have hq2 : ((LS.length : Int) == 0) = false := by simpa using hq0
            have hb0 : 0 < LS.length := by omega
            have hk30 : LS.length ≤ 1000 := by omega
            clear hq
            obtain ⟨p, hp⟩ : ∃ p, LS[kk]? = some p := ⟨_, List.getElem?_eq_getElem hkk⟩
            obtain ⟨b7, c7', hv7, hb7⟩ := H7.out.grid.block hb0
            injection hv7 with hA7 _ hc7
            subst hA7 hc7
            obtain ⟨q2, q3, hvp⟩ := H7.out.grid.get hp
            obtain ⟨pv, pe⟩ := p
            simp only at q2 hvp
            obtain ⟨E, cE, rfl, -⟩ := hvp.form
            have hH7 := H7.out.hist
            have hpe : (LS.map (·.2))[kk]? = some pe := by simp [hp]
            obtain ⟨hok7, hset7, hH8⟩ := hH7.give hpe
            rw [show ((kk + 1 : Nat) : Int) = (kk : Int) + 1 from by omega] at hset7 hH8
            have hpel : (natE pe).length ≤ 65536 := by
              have h1 := hok7.cnt
              have h2 : (natE pe).length = pe.length := by simp [natE]
              have h3 := len_lens (hH7.good kk pe hpe).2
              have h4 := cnt_le (setA (flagsOf ow) pe true)
              rw [hok7.len, flagsOf_len, H7.out.len] at h4
              simp at h1
              omega
            have HGV := Lib.hid (give_T (natE pe) (fun e he => by
              simp only [natE, List.mem_map] at he
              obtain ⟨e', he', rfl⟩ := he
              have h1 := hok7.within e' he'
              rw [flagsOf_len, H7.out.len] at h1
              refine ⟨⟨?_, ?_⟩, ?_, ?_⟩ <;> simp <;> omega) HS7.out hvp hpel)
            have hyes : ∀ ns, TurnOk (flagsOf ow) (natE pe) true ns → ns = pe := fun ns h => (natE_inj h.1).symm
            have hok8 : TurnOk (flagsOf ow) (natE pe) true pe := ⟨rfl, (hH7.good kk pe hpe).2, hok7⟩
            have hcf := cnt_freed ow ((kk : Int) + 1) (by omega)
            have hbrow := own_typed H7.out.grid.own (k := b7) rfl
            have HP := Lib.hid (And.intro hyes (And.intro hok8 (And.intro hset7 (And.intro hH8 (And.intro hcf hbrow)))))
            have HF7 := Lib.hid (sfree_any HS7.out.at_.blk)
            clear hvp hH7 hpe hok7 hset7 hH8 hpel hyes hok8 hcf hp hbrow
            go_wp2_with fail
            refine HF7.out.mono ?_
            rintro e w' ⟨rfl, rfl⟩
            clear HF7
            go_wp2_with fail
            refine HGV.out.mono ?_
            rintro e8 W8 ⟨hk8, hz8, r8, ⟨ns, hok, rfl, hs8⟩ | ⟨hno, rfl, hs8⟩⟩
            case inr => exact absurd HP.out.2.1 (hno pe)
            obtain rfl := HP.out.1 ns hok
            rw [HP.out.2.2.1] at hs8
            have hr8 : Blk W8 o 3 (i64s ow).toArray := H7.out.row.of (hk8 _ _ _ H7.out.row (by decide) (by decide))
            have hg8 := H7.out.grid.keep hk8
            have H8 := Lib.hid (And.intro hs8 (And.intro hr8 hg8))
            have hol8 : (ow).length = m := H7.out.len
            have HOL := Lib.hid hol8
            have hwkk : IntKind.i64.wrap ((kk : Int) + 1) = (kk : Int) + 1 := by rw [IntKind.wrap_i64]; omega
            clear hs8 hr8 hg8 hok hk8 hz8 HGV q2 q3 b0 hol8
            go_wp2_with fail
            go_loopw [22, 156] (fun sv i wr => ∃ q' : Nat, q' ≤ m ∧ i = .int .i64 q' ∧ sv = .int .i64 ((ow).take q' |>.countP (fun v => decide (v = ((kk : Int) + 1)))) ∧ Only [o] W8 wr ∧ Blk wr o 3 (i64s (((ow).take q').map (freed ((kk : Int) + 1)) ++ (ow).drop q')).toArray) (fun _ i _ => m - (intS i).toNat)
            case atStart => exact ⟨0, by omega, rfl, by simp, Only.refl _ _, by simpa using H8.out.2.1⟩
            case round =>
              obtain ⟨q', hq', rfl, rfl, hOn, hrow⟩ := hrel
              obtain ⟨wz, hwz⟩ : ∃ wz, wz = wr := ⟨_, rfl⟩
              subst hwz
              have hcl : ((ow).take q').countP (fun v => decide (v = ((kk : Int) + 1))) ≤ q' := Nat.le_trans List.countP_le_length (by simp; omega)
              have hwi : IntKind.i64.wrap ((q' : Int) + 1) = (q' : Int) + 1 := by rw [IntKind.wrap_i64]; omega
              by_cases hlq : q' < m
              · obtain ⟨vi, hvi⟩ : ∃ vi, (ow)[q']? = some vi := ⟨_, List.getElem?_eq_getElem (by rw [HOL.out]; exact hlq)⟩
                have htl : (((ow).take q').map (freed ((kk : Int) + 1))).length = q' := by simp [HOL.out]; omega
                have hdr : (ow).drop q' = vi :: (ow).drop (q' + 1) := by
                  rw [List.drop_eq_getElem_cons (by rw [HOL.out]; exact hlq)]
                  rw [List.getElem?_eq_getElem (by rw [HOL.out]; exact hlq)] at hvi
                  injection hvi with hvi
                  rw [hvi]
                have hcur : (((ow).take q').map (freed ((kk : Int) + 1)) ++ (ow).drop q')[q']? = some vi := by
                  rw [List.getElem?_append_right (by omega), htl, Nat.sub_self, hdr]
                  rfl
                have htk : (ow).take (q' + 1) = (ow).take q' ++ [vi] := by rw [List.take_add_one, hvi]; rfl
                obtain ⟨z2, z3⟩ := i64s_cell hrow hcur
                by_cases hvk : vi = (kk : Int) + 1
                · have hb : (vi == (kk : Int) + 1) = true := by simpa using hvk
                  have hset := hrow.set_ q' (.int .i64 0)
                  rw [i64s_set, List.set_append_right _ _ (by omega), htl, Nat.sub_self, hdr, List.set_cons_zero] at hset
                  have hlist : ((ow).take q').map (freed ((kk : Int) + 1)) ++ (0 :: (ow).drop (q' + 1)) = ((ow).take (q' + 1)).map (freed ((kk : Int) + 1)) ++ (ow).drop (q' + 1) := by
                    rw [htk, List.map_append, List.append_assoc]
                    simp [freed, hvk]
                  rw [hlist] at hset
                  have hcp : ((ow).take (q' + 1)).countP (fun v => decide (v = ((kk : Int) + 1))) = ((ow).take q').countP (fun v => decide (v = ((kk : Int) + 1))) + 1 := by
                    rw [htk, List.countP_append]
                    simp [hvk]
                  have HN := Lib.hid (And.intro hcp (And.intro (hOn.setCell (p := ⟨o, q', none⟩) (.inl (by simp)) (.int .i64 0)) hset))
                  have hws : IntKind.i64.wrap ((((ow).take q').countP (fun v => decide (v = ((kk : Int) + 1))) : Int) + 1) = (((ow).take q').countP (fun v => decide (v = ((kk : Int) + 1))) : Int) + 1 := by rw [IntKind.wrap_i64]; omega
                  clear hrow hOn hdr hcur htk hset hlist hcp htl
                  generalize ((ow).take q').countP (fun v => decide (v = ((kk : Int) + 1))) = cc at *
                  subst hvk
                  go_wp2
                  go_roundw
                  case rel => exact ⟨q' + 1, by omega, by go_num, by rw [HN.out.1]; go_num, HN.out.2.1, HN.out.2.2⟩
                  case measure => simp [intS]; omega
                · have hb : (vi == (kk : Int) + 1) = false := by simpa using hvk
                  have hlist : ((ow).take q').map (freed ((kk : Int) + 1)) ++ (ow).drop q' = ((ow).take (q' + 1)).map (freed ((kk : Int) + 1)) ++ (ow).drop (q' + 1) := by
                    rw [htk, List.map_append, List.append_assoc, hdr]
                    simp [freed, hvk]
                  rw [hlist] at hrow
                  have hcp : ((ow).take (q' + 1)).countP (fun v => decide (v = ((kk : Int) + 1))) = ((ow).take q').countP (fun v => decide (v = ((kk : Int) + 1))) := by
                    rw [htk, List.countP_append]
                    simp [hvk]
                  have HN := Lib.hid (And.intro hcp (And.intro hOn hrow))
                  have HVK := Lib.hid hvk
                  clear hrow hOn hdr hcur htk hlist hcp htl
                  go_wp2
                  go_roundw
                  case rel => exact ⟨q' + 1, by omega, by go_num, by rw [HN.out.1], HN.out.2.1, HN.out.2.2⟩
                  case measure => simp [intS]; omega
              · obtain rfl : q' = m := by omega
                have htm : (ow).take q' = ow := by rw [← HOL.out]; exact List.take_length
                have hdm : (ow).drop q' = [] := by rw [← HOL.out]; exact List.drop_length
                rw [htm, hdm, List.append_nil] at hrow
                have hbel : Below w.heap.size w wz := ((Only.of_below H8.out.1.bel []).trans hOn (fun _ h => by simp at h; subst h; exact .inr hob)).nil
                have hs9 : Sps w wz g r8 c A (flagsOf ((ow).map (freed ((kk : Int) + 1)))) := H8.out.1.keepB (KeepB.of_only H8.out.2.1 hOn (by decide) (by decide)) hbel
                have hg9 := H8.out.2.2.of_only H8.out.2.1 hOn
                have hFs := sfree_any hs9.at_.blk
                have hcf := HP.out.2.2.2.2.1
                have hc1 := cnt_le (flagsOf ((ow).map (freed ((kk : Int) + 1))))
                rw [flagsOf_len, List.length_map, HOL.out] at hc1
                have hwa : IntKind.i64.wrap ((cnt (flagsOf ow) : Int) + (((ow).take q').countP (fun v => decide (v = ((kk : Int) + 1))) : Int)) = (cnt (flagsOf ((ow).map (freed ((kk : Int) + 1)))) : Int) := by
                  rw [htm, hcf, IntKind.wrap_i64]
                  omega
                have HFS := Lib.hid hFs
                obtain ⟨csb, hbb⟩ := own_typed hg9.own (k := b7) rfl
                have q2' : ∃ u, wz.cell? ⟨b7, kk, none⟩ = some u := by
                  obtain ⟨p9, hp9⟩ : ∃ p, LS[kk]? = some p := ⟨_, List.getElem?_eq_getElem hkk⟩
                  exact ⟨_, (hg9.get hp9).1⟩
                have q3 : wz.frozen? ⟨b7, kk, none⟩ = false := World.ownsRow.frozenAt hg9.own kk
                obtain ⟨u9, q2⟩ := q2'
                have hne : o ≠ b7 := hrow.ne_ hbb (by decide)
                have hfin : Onc w (wz.setCell ⟨b7, kk, none⟩ (.slice none 0 0)) g c o q' (k + 1) A (.slice (some ⟨b7, 0, none⟩) LS.length c7) ((ow).map (freed ((kk : Int) + 1))) (LS.set kk (.slice none 0 0, [])) := by
                  have hgr := hg9.reset kk
                  rw [List.length_set] at hgr
                  refine ⟨⟨r8, hs9.keepB (KeepB.set hbb _ (by decide) (by decide)) (hbel.setCell (p := ⟨b7, kk, none⟩) (by show w.heap.size ≤ b7; exact hb7) _)⟩, hrow.far (p := ⟨b7, kk, none⟩) hne _, hgr, by rw [List.length_map]; exact HOL.out, by rw [List.length_set]; exact HQ.out, ?_⟩
                  rw [List.map_set]
                  exact HP.out.2.2.2.1
                have HFIN := Lib.hid hfin
                clear hrow hOn hbel hs9 hg9 hFs hcf hc1 hbb hfin htm hdm hcl
                have hkl : (kk : Int) < (LS.length : Int) := by omega
                go_wp2_with fail
                refine HFS.out.mono ?_
                rintro e w' ⟨rfl, rfl⟩
                clear HFS
                go_wp2
                go_roundw
                case rel => exact ⟨k + 1, _, _, by omega, by go_num, HFIN.out⟩
                case measure => simp [intS]; omega
          · have hdk : decide ((k : Int) < (lb.length : Int)) = false := decide_eq_false (by omega)
            have hdk2 : decide (k < lb.length) = false := decide_eq_false hkb
            go_wp2
            go_roundw
            case rel => exact ⟨k + 1, _, LS, by omega, by go_num, H7.out⟩
            case measure => simp [intS]; omega
      · have hd1 : decide ((0 : Int) ≤ x) = true := decide_eq_true (by omega)
        have hd2 : decide (x ≤ (cnt (flagsOf ow) : Int)) = false := decide_eq_false (by omega)
        simp only [errV]
        have h5 : Onc5 w W3 g c o m k A (.slice AL ls.length cL) ow ls (.slice none 0 0) [] := ⟨⟨r3, hs3⟩, HO.out.row.of (hk3 _ _ _ HO.out.row (by decide) (by decide)), HO.out.grid.keep hk3, OwnE.nil _ _, HO.out.len, HO.out.num, HO.out.hist.app trivial (by simp) (Marked.none ow _ (fun i ⟨e, he, _⟩ => by simp at he))⟩
        have H5 := Lib.hid h5
        have W5x : ∃ wq, wq = W3 := ⟨_, rfl⟩
        clear hs3 hk3 h5 a0
        go_wp2_with fail
        go_loopw [75] (fun i wr => i = .int .i64 0 ∧ wr = W3) (fun i _ => 0)
        case atStart => exact ⟨rfl, by trivial⟩
        case round =>
          obtain ⟨rfl, rfl⟩ := hrel
          obtain ⟨wp, hwp⟩ : ∃ wp, wp = wr := ⟨_, rfl⟩
          subst hwp
          clear W5x
          have hbr := build_row none 0 0
          have hlw : ls.length = k := H5.out.num
          have HLW := Lib.hid hlw
          clear hlw
          go_upto_region 33 with (have _h := hbr; refine app_grid (.tmp 127) (.tmp 129) rfl rfl (.slice AL ls.length cL) ls rfl (H5.out.grid.keep (KeepT.below ((Below.refl _ _).alloc (Nat.le_refl _) _))) (.slice none 0 0) ([] : List (Nat × Nat)) (H5.out.val.under2 ((Below.refl _ _).alloc (Nat.le_refl _) _)) wp.heap.size 1 rfl ((Blk.new wp 36 #[(.slice none 0 0)]).cell 0) (by rw [HLW.out]; omega) (by obtain ⟨r, hs⟩ := H5.out.sp; have := hs.bel.size; simp; omega) ?_; intro lv2 W7 hG7 hg7 hr7; clear _h hbr)
          obtain ⟨A7, c7, rfl⟩ := hG7.form
          have h7 := H5.out.app hg7 hr7 hG7
          clear hG7 hg7 hr7
          generalize hLS : ls ++ [((.slice none 0 0), ([] : List (Nat × Nat)))] = LS at *
          have H7 := Lib.hid h7
          have hq : LS.length = k + 1 := h7.num
          obtain ⟨r7, hs7⟩ := h7.sp
          have HS7 := Lib.hid hs7
          have HQ := Lib.hid hq
          clear h7 hs7 hLS HLW hq
          by_cases hkb : k < lb.length
          · obtain ⟨ad2, y, rfl, -, -, b0⟩ := (show Ints W7 w.heap.size Ab lb from HRB.out.below HS7.out.bel).get hkb
            have hq := HQ.out
            obtain ⟨kk, hkk, hkx⟩ := modq y LS.length (by omega) (by omega)
            have hwq : IntKind.u64.wrap (LS.length : Int) = (LS.length : Int) := by rw [IntKind.wrap_u64]; omega
            have hq0 : ¬ (LS.length = 0) := by omega
            have hq1 : ¬ ((LS.length : Int) = 0) := by omega
            have hq2 : ((LS.length : Int) == 0) = false := by simpa using hq0
            have hb0 : 0 < LS.length := by omega
            have hk30 : LS.length ≤ 1000 := by omega
            clear hq
            obtain ⟨p, hp⟩ : ∃ p, LS[kk]? = some p := ⟨_, List.getElem?_eq_getElem hkk⟩
            obtain ⟨b7, c7', hv7, hb7⟩ := H7.out.grid.block hb0
            injection hv7 with hA7 _ hc7
            subst hA7 hc7
            obtain ⟨q2, q3, hvp⟩ := H7.out.grid.get hp
            obtain ⟨pv, pe⟩ := p
            simp only at q2 hvp
            obtain ⟨E, cE, rfl, -⟩ := hvp.form
            have hH7 := H7.out.hist
            have hpe : (LS.map (·.2))[kk]? = some pe := by simp [hp]
            obtain ⟨hok7, hset7, hH8⟩ := hH7.give hpe
            rw [show ((kk + 1 : Nat) : Int) = (kk : Int) + 1 from by omega] at hset7 hH8
            have hpel : (natE pe).length ≤ 65536 := by
              have h1 := hok7.cnt
              have h2 : (natE pe).length = pe.length := by simp [natE]
              have h3 := len_lens (hH7.good kk pe hpe).2
              have h4 := cnt_le (setA (flagsOf ow) pe true)
              rw [hok7.len, flagsOf_len, H7.out.len] at h4
              simp at h1
              omega
            have HGV := Lib.hid (give_T (natE pe) (fun e he => by
              simp only [natE, List.mem_map] at he
              obtain ⟨e', he', rfl⟩ := he
              have h1 := hok7.within e' he'
              rw [flagsOf_len, H7.out.len] at h1
              refine ⟨⟨?_, ?_⟩, ?_, ?_⟩ <;> simp <;> omega) HS7.out hvp hpel)
            have hyes : ∀ ns, TurnOk (flagsOf ow) (natE pe) true ns → ns = pe := fun ns h => (natE_inj h.1).symm
            have hok8 : TurnOk (flagsOf ow) (natE pe) true pe := ⟨rfl, (hH7.good kk pe hpe).2, hok7⟩
            have hcf := cnt_freed ow ((kk : Int) + 1) (by omega)
            have hbrow := own_typed H7.out.grid.own (k := b7) rfl
            have HP := Lib.hid (And.intro hyes (And.intro hok8 (And.intro hset7 (And.intro hH8 (And.intro hcf hbrow)))))
            have HF7 := Lib.hid (sfree_any HS7.out.at_.blk)
            clear hvp hH7 hpe hok7 hset7 hH8 hpel hyes hok8 hcf hp hbrow
            go_wp2_with fail
            refine HF7.out.mono ?_
            rintro e w' ⟨rfl, rfl⟩
            clear HF7
            go_wp2_with fail
            refine HGV.out.mono ?_
            rintro e8 W8 ⟨hk8, hz8, r8, ⟨ns, hok, rfl, hs8⟩ | ⟨hno, rfl, hs8⟩⟩
            case inr => exact absurd HP.out.2.1 (hno pe)
            obtain rfl := HP.out.1 ns hok
            rw [HP.out.2.2.1] at hs8
            have hr8 : Blk W8 o 3 (i64s ow).toArray := H7.out.row.of (hk8 _ _ _ H7.out.row (by decide) (by decide))
            have hg8 := H7.out.grid.keep hk8
            have H8 := Lib.hid (And.intro hs8 (And.intro hr8 hg8))
            have hol8 : (ow).length = m := H7.out.len
            have HOL := Lib.hid hol8
            have hwkk : IntKind.i64.wrap ((kk : Int) + 1) = (kk : Int) + 1 := by rw [IntKind.wrap_i64]; omega
            clear hs8 hr8 hg8 hok hk8 hz8 HGV q2 q3 b0 hol8
            go_wp2_with fail
            go_loopw [22, 156] (fun sv i wr => ∃ q' : Nat, q' ≤ m ∧ i = .int .i64 q' ∧ sv = .int .i64 ((ow).take q' |>.countP (fun v => decide (v = ((kk : Int) + 1)))) ∧ Only [o] W8 wr ∧ Blk wr o 3 (i64s (((ow).take q').map (freed ((kk : Int) + 1)) ++ (ow).drop q')).toArray) (fun _ i _ => m - (intS i).toNat)
            case atStart => exact ⟨0, by omega, rfl, by simp, Only.refl _ _, by simpa using H8.out.2.1⟩
            case round =>
              obtain ⟨q', hq', rfl, rfl, hOn, hrow⟩ := hrel
              obtain ⟨wz, hwz⟩ : ∃ wz, wz = wr := ⟨_, rfl⟩
              subst hwz
              have hcl : ((ow).take q').countP (fun v => decide (v = ((kk : Int) + 1))) ≤ q' := Nat.le_trans List.countP_le_length (by simp; omega)
              have hwi : IntKind.i64.wrap ((q' : Int) + 1) = (q' : Int) + 1 := by rw [IntKind.wrap_i64]; omega
              by_cases hlq : q' < m
              · obtain ⟨vi, hvi⟩ : ∃ vi, (ow)[q']? = some vi := ⟨_, List.getElem?_eq_getElem (by rw [HOL.out]; exact hlq)⟩
                have htl : (((ow).take q').map (freed ((kk : Int) + 1))).length = q' := by simp [HOL.out]; omega
                have hdr : (ow).drop q' = vi :: (ow).drop (q' + 1) := by
                  rw [List.drop_eq_getElem_cons (by rw [HOL.out]; exact hlq)]
                  rw [List.getElem?_eq_getElem (by rw [HOL.out]; exact hlq)] at hvi
                  injection hvi with hvi
                  rw [hvi]
                have hcur : (((ow).take q').map (freed ((kk : Int) + 1)) ++ (ow).drop q')[q']? = some vi := by
                  rw [List.getElem?_append_right (by omega), htl, Nat.sub_self, hdr]
                  rfl
                have htk : (ow).take (q' + 1) = (ow).take q' ++ [vi] := by rw [List.take_add_one, hvi]; rfl
                obtain ⟨z2, z3⟩ := i64s_cell hrow hcur
                by_cases hvk : vi = (kk : Int) + 1
                · have hb : (vi == (kk : Int) + 1) = true := by simpa using hvk
                  have hset := hrow.set_ q' (.int .i64 0)
                  rw [i64s_set, List.set_append_right _ _ (by omega), htl, Nat.sub_self, hdr, List.set_cons_zero] at hset
                  have hlist : ((ow).take q').map (freed ((kk : Int) + 1)) ++ (0 :: (ow).drop (q' + 1)) = ((ow).take (q' + 1)).map (freed ((kk : Int) + 1)) ++ (ow).drop (q' + 1) := by
                    rw [htk, List.map_append, List.append_assoc]
                    simp [freed, hvk]
                  rw [hlist] at hset
                  have hcp : ((ow).take (q' + 1)).countP (fun v => decide (v = ((kk : Int) + 1))) = ((ow).take q').countP (fun v => decide (v = ((kk : Int) + 1))) + 1 := by
                    rw [htk, List.countP_append]
                    simp [hvk]
                  have HN := Lib.hid (And.intro hcp (And.intro (hOn.setCell (p := ⟨o, q', none⟩) (.inl (by simp)) (.int .i64 0)) hset))
                  have hws : IntKind.i64.wrap ((((ow).take q').countP (fun v => decide (v = ((kk : Int) + 1))) : Int) + 1) = (((ow).take q').countP (fun v => decide (v = ((kk : Int) + 1))) : Int) + 1 := by rw [IntKind.wrap_i64]; omega
                  clear hrow hOn hdr hcur htk hset hlist hcp htl
                  generalize ((ow).take q').countP (fun v => decide (v = ((kk : Int) + 1))) = cc at *
                  subst hvk
                  go_wp2
                  go_roundw
                  case rel => exact ⟨q' + 1, by omega, by go_num, by rw [HN.out.1]; go_num, HN.out.2.1, HN.out.2.2⟩
                  case measure => simp [intS]; omega
                · have hb : (vi == (kk : Int) + 1) = false := by simpa using hvk
                  have hlist : ((ow).take q').map (freed ((kk : Int) + 1)) ++ (ow).drop q' = ((ow).take (q' + 1)).map (freed ((kk : Int) + 1)) ++ (ow).drop (q' + 1) := by
                    rw [htk, List.map_append, List.append_assoc, hdr]
                    simp [freed, hvk]
                  rw [hlist] at hrow
                  have hcp : ((ow).take (q' + 1)).countP (fun v => decide (v = ((kk : Int) + 1))) = ((ow).take q').countP (fun v => decide (v = ((kk : Int) + 1))) := by
                    rw [htk, List.countP_append]
                    simp [hvk]
                  have HN := Lib.hid (And.intro hcp (And.intro hOn hrow))
                  have HVK := Lib.hid hvk
                  clear hrow hOn hdr hcur htk hlist hcp htl
                  go_wp2
                  go_roundw
                  case rel => exact ⟨q' + 1, by omega, by go_num, by rw [HN.out.1], HN.out.2.1, HN.out.2.2⟩
                  case measure => simp [intS]; omega
              · obtain rfl : q' = m := by omega
                have htm : (ow).take q' = ow := by rw [← HOL.out]; exact List.take_length
                have hdm : (ow).drop q' = [] := by rw [← HOL.out]; exact List.drop_length
                rw [htm, hdm, List.append_nil] at hrow
                have hbel : Below w.heap.size w wz := ((Only.of_below H8.out.1.bel []).trans hOn (fun _ h => by simp at h; subst h; exact .inr hob)).nil
                have hs9 : Sps w wz g r8 c A (flagsOf ((ow).map (freed ((kk : Int) + 1)))) := H8.out.1.keepB (KeepB.of_only H8.out.2.1 hOn (by decide) (by decide)) hbel
                have hg9 := H8.out.2.2.of_only H8.out.2.1 hOn
                have hFs := sfree_any hs9.at_.blk
                have hcf := HP.out.2.2.2.2.1
                have hc1 := cnt_le (flagsOf ((ow).map (freed ((kk : Int) + 1))))
                rw [flagsOf_len, List.length_map, HOL.out] at hc1
                have hwa : IntKind.i64.wrap ((cnt (flagsOf ow) : Int) + (((ow).take q').countP (fun v => decide (v = ((kk : Int) + 1))) : Int)) = (cnt (flagsOf ((ow).map (freed ((kk : Int) + 1)))) : Int) := by
                  rw [htm, hcf, IntKind.wrap_i64]
                  omega
                have HFS := Lib.hid hFs
                obtain ⟨csb, hbb⟩ := own_typed hg9.own (k := b7) rfl
                have q2' : ∃ u, wz.cell? ⟨b7, kk, none⟩ = some u := by
                  obtain ⟨p9, hp9⟩ : ∃ p, LS[kk]? = some p := ⟨_, List.getElem?_eq_getElem hkk⟩
                  exact ⟨_, (hg9.get hp9).1⟩
                have q3 : wz.frozen? ⟨b7, kk, none⟩ = false := World.ownsRow.frozenAt hg9.own kk
                obtain ⟨u9, q2⟩ := q2'
                have hne : o ≠ b7 := hrow.ne_ hbb (by decide)
                have hfin : Onc w (wz.setCell ⟨b7, kk, none⟩ (.slice none 0 0)) g c o q' (k + 1) A (.slice (some ⟨b7, 0, none⟩) LS.length c7) ((ow).map (freed ((kk : Int) + 1))) (LS.set kk (.slice none 0 0, [])) := by
                  have hgr := hg9.reset kk
                  rw [List.length_set] at hgr
                  refine ⟨⟨r8, hs9.keepB (KeepB.set hbb _ (by decide) (by decide)) (hbel.setCell (p := ⟨b7, kk, none⟩) (by show w.heap.size ≤ b7; exact hb7) _)⟩, hrow.far (p := ⟨b7, kk, none⟩) hne _, hgr, by rw [List.length_map]; exact HOL.out, by rw [List.length_set]; exact HQ.out, ?_⟩
                  rw [List.map_set]
                  exact HP.out.2.2.2.1
                have HFIN := Lib.hid hfin
                clear hrow hOn hbel hs9 hg9 hFs hcf hc1 hbb hfin htm hdm hcl
                have hkl : (kk : Int) < (LS.length : Int) := by omega
                go_wp2_with fail
                refine HFS.out.mono ?_
                rintro e w' ⟨rfl, rfl⟩
                clear HFS
                go_wp2
                go_roundw
                case rel => exact ⟨k + 1, _, _, by omega, by go_num, HFIN.out⟩
                case measure => simp [intS]; omega
          · have hdk : decide ((k : Int) < (lb.length : Int)) = false := decide_eq_false (by omega)
            have hdk2 : decide (k < lb.length) = false := decide_eq_false hkb
            go_wp2
            go_roundw
            case rel => exact ⟨k + 1, _, LS, by omega, by go_num, H7.out⟩
            case measure => simp [intS]; omega
      · have hd2 : decide ((k3 : Int) ≤ (cnt (flagsOf ow) : Int)) = true := decide_eq_true (by omega)
        have hd2' : decide (k3 ≤ cnt (flagsOf ow)) = true := decide_eq_true (by omega)
        have hd1 : decide ((0 : Int) ≤ (k3 : Int)) = true := decide_eq_true (by omega)
        obtain ⟨A3, c3, rfl, -⟩ := hv3.form
        have hnl : (natE out).length = out.length := by simp [natE]
        rw [hnl]
        obtain ⟨hok3, hln3⟩ := hch3.ok (hol_sound (flagsOf ow))
        have hpos3 : ∀ e ∈ out, 1 ≤ e.2 := hch3.pos fun e he => (hol_mem (flagsOf ow) 0 e.1 e.2 he).2.1
        have hfew3 : out.length ≤ 65536 := by have h1 := hch3.few.1; have h2 := hol_few (flagsOf ow); omega
        have hv3x : ExtR W3 W3.heap.size A3 (natE out) := hv3.ext
        have hrow3 : Blk W3 o 3 (i64s ow).toArray := HO.out.row.of (hk3 _ _ _ HO.out.row (by decide) (by decide))
        have hcnt3 := hok3.cnt
        have hlen3 := HO.out.len
        have H3 := Lib.hid (And.intro hk3 (And.intro hz3 (And.intro hs3 (And.intro hv3 (And.intro hok3 (And.intro hpos3 (And.intro hv3x (And.intro hrow3 hcnt3))))))))
        clear hk3 hz3 hs3 hv3 hok3 hpos3 hv3x hrow3 hcnt3 hch3 hnl a0
        go_wp2_with fail
        go_loopw [16, 75] (fun sv i wr => ∃ (q : Nat) (ow' : List Int), q ≤ out.length ∧ i = .int .i64 q ∧ sv = .int .i64 (lens (out.take q)) ∧ Marked ow ow' (Cov (out.take q)) ((k : Int) + 1) ∧ Only [o] W3 wr ∧ Blk wr o 3 (i64s ow').toArray) (fun _ i _ => out.length - (intS i).toNat)
        case atStart => exact ⟨0, ow, by omega, rfl, by simp [lens], Marked.none ow _ (fun i ⟨e, he, _⟩ => by simp at he), Only.refl _ _, H3.out.2.2.2.2.2.2.2.1⟩
        case round =>
          obtain ⟨q, ow1, hq, rfl, rfl, hM, hOn, hrow⟩ := hrel
          obtain ⟨wp, hwp⟩ : ∃ wp, wp = wr := ⟨_, rfl⟩
          subst hwp
          have hXr : ExtR wp W3.heap.size A3 (natE out) := H3.out.2.2.2.2.2.2.1.only hOn (Nat.le_refl _) (fun ad hA => by
            subst hA
            obtain ⟨cs, hb⟩ := own_typed H3.out.2.2.2.1 (k := ad.block) rfl
            simp
            exact hb.ne_ H3.out.2.2.2.2.2.2.2.1 (by decide))
          have hwq : IntKind.i64.wrap ((q : Int) + 1) = (q : Int) + 1 := by rw [IntKind.wrap_i64]; omega
          by_cases hlq : q < out.length
          · obtain ⟨ad3, e, rfl, -, he, b0, b1⟩ := hXr.get (k := q) (by simp [natE]; omega)
            have he2 : e = (((gx out q).1 : Int), ((gx out q).2 : Int)) := by
              simp only [natE, List.getElem?_map, gx_some hlq, Option.map_some] at he
              injection he with he
              exact he.symm
            subst he2
            have hts := etake_snoc hlq
            have hall : AllR (setA (flagsOf ow) (out.take q) false) (gx out q).1 (gx out q).2 true := by
              have h := H3.out.2.2.2.2.1
              rw [← List.take_append_drop (q + 1) out, hts, OkA.app, OkA.app] at h
              exact h.1.2.1
            have hoq : OkA (flagsOf ow) (out.take q) false := by
              have h := H3.out.2.2.2.2.1
              rw [← List.take_append_drop q out, OkA.app] at h
              exact h.1
            have hlsum : lens (out.take (q + 1)) = lens (out.take q) + (gx out q).2 := by rw [hts]; simp [lens]
            have hxy : (gx out q).1 + (gx out q).2 ≤ m := by have h1 := hall.1; rw [hoq.len, flagsOf_len] at h1; omega
            have hlq2 : lens (out.take q) ≤ m := by
              have h1 := hoq.cnt
              simp at h1
              omega
            have hfree : ∀ i, (gx out q).1 ≤ i → i < (gx out q).1 + (gx out q).2 → ¬ Cov (out.take q) i ∧ ow[i]? = some 0 := fun i h1 h2 => by
              have h3 := hall.2 i h1 h2
              have hnc : ¬ Cov (out.take q) i := fun hc => by rw [((hoq.at_ i).1 hc).1] at h3; simp at h3
              refine ⟨hnc, flagsOf_true.1 ?_⟩
              rw [← (hoq.at_ i).2 hnc]
              exact h3
            have hcov : ∀ i, Cov (out.take (q + 1)) i ↔ Cov (out.take q) i ∨ ((gx out q).1 ≤ i ∧ i < (gx out q).1 + (gx out q).2) := fun i => by rw [hts, Cov.snoc]
            have HFR := Lib.hid (And.intro hfree (And.intro hcov hlsum))
            have K4 := Blk.new wp 45 #[.int .i64 ((gx out q).1 : Int), .int .i64 ((gx out q).2 : Int)]
            have R4 := hrow.alloc (.cells #[.int .i64 ((gx out q).1 : Int), .int .i64 ((gx out q).2 : Int)] 45)
            have O4 := hOn.alloc (.cells #[.int .i64 ((gx out q).1 : Int), .int .i64 ((gx out q).2 : Int)] 45)
            have hgo : wp.heap.size ≠ o := by have := hrow.lt; omega
            have H4 := Lib.hid (And.intro K4 (And.intro R4 (And.intro O4 hM)))
            clear K4 R4 O4 hM hOn hrow hXr he hts hall hoq hlsum hfree hcov
            generalize (gx out q).1 = x at *
            generalize (gx out q).2 = y at *
            go_wp2_with (have _h := b0; refine wpList_load_ext rfl (.tmp 77) rfl _ rfl ((x : Int), (y : Int)) b0 b1 ?_; clear _h b0 b1)
            generalize wp.alloc (.cells #[.int .i64 (x : Int), .int .i64 (y : Int)] 45) = w5 at *
            generalize wp.heap.size = gb at *
            go_loopw [16, 19] (fun sv i wi => ∃ (j : Nat) (ow2 : List Int), j ≤ y ∧ i = .int .i64 ((x + j : Nat) : Int) ∧ sv = .int .i64 ((lens (out.take q) + j : Nat) : Int) ∧ Marked ow ow2 (fun i => Cov (out.take q) i ∨ (x ≤ i ∧ i < x + j)) ((k : Int) + 1) ∧ Only [o] W3 wi ∧ Blk wi o 3 (i64s ow2).toArray ∧ Blk wi gb 45 #[.int .i64 (x : Int), .int .i64 (y : Int)]) (fun _ i _ => x + y - (intS i).toNat)
            case atStart => exact ⟨0, ow1, by omega, by simp, by simp, H4.out.2.2.2.cong (fun i => ⟨fun h => .inl h, fun h => h.resolve_right (by omega)⟩), H4.out.2.2.1, H4.out.2.1, H4.out.1⟩
            case round =>
              obtain ⟨j, ow2, hj, rfl, rfl, hM, hOn, hrow, hK⟩ := hrel
              have p0 : wr.cell? ⟨gb, 0, none⟩ = some (.int .i64 (x : Int)) := hK.cell 0
              have p1 : wr.cell? ⟨gb, 1, none⟩ = some (.int .i64 (y : Int)) := hK.cell 1
              have hwe : IntKind.i64.wrap ((x : Int) + (y : Int)) = (x : Int) + (y : Int) := by rw [IntKind.wrap_i64]; omega
              by_cases hlj : j < y
              · have hd3 : decide (((x + j : Nat) : Int) < (x : Int) + (y : Int)) = true := decide_eq_true (by omega)
                have hd4 : decide (((x + j : Nat) : Int) < 0) = false := decide_eq_false (by omega)
                have hd5 : decide ((m : Int) ≤ ((x + j : Nat) : Int)) = false := decide_eq_false (by omega)
                have hfr := HFR.out.1 (x + j) (by omega) (by omega)
                have hz : ow2[x + j]? = some 0 := by
                  rw [(hM.2 (x + j) (by omega)).2 (fun h => by rcases h with h | h; exact hfr.1 h; omega)]
                  exact hfr.2
                obtain ⟨q2, q3⟩ := i64s_cell hrow hz
                have hst := hM.step (j := x + j) (by omega)
                have hst2 := hst.cong (Q := fun i => Cov (out.take q) i ∨ (x ≤ i ∧ i < x + (j + 1))) (fun i => ⟨fun h => by
                  rcases h with (h | h) | h
                  · exact .inl h
                  · exact .inr ⟨h.1, by omega⟩
                  · exact .inr (by omega), fun h => by
                  rcases h with h | h
                  · exact .inl (.inl h)
                  · by_cases hx : i = x + j
                    · exact .inr hx
                    · exact .inl (.inr (by omega))⟩)
                have hrow2 := hrow.set_ (x + j) (.int .i64 ((k : Int) + 1))
                rw [i64s_set] at hrow2
                have HN := Lib.hid (And.intro hst2 (And.intro (hOn.setCell (p := ⟨o, x + j, none⟩) (.inl (by simp)) (.int .i64 ((k : Int) + 1))) (And.intro hrow2 (hK.far (p := ⟨o, x + j, none⟩) (by show gb ≠ o; exact hgo) (.int .i64 ((k : Int) + 1))))))
                have hwj : IntKind.i64.wrap (((x + j : Nat) : Int) + 1) = ((x + (j + 1) : Nat) : Int) := by rw [IntKind.wrap_i64]; omega
                have hws : IntKind.i64.wrap (((lens (out.take q) + j : Nat) : Int) + 1) = ((lens (out.take q) + (j + 1) : Nat) : Int) := by rw [IntKind.wrap_i64]; omega
                have hge : (0 : Int) ≤ ((x + j : Nat) : Int) := by omega
                have hlt2 : ((x + j : Nat) : Int) < (m : Int) := by omega
                clear hM hOn hrow hK hz hst hst2 hrow2 hfr
                generalize hxj : x + j = xj at *
                generalize hsj : lens (out.take q) + j = sj at *
                go_wp2
                go_roundw
                case rel => exact ⟨j + 1, _, by omega, rfl, rfl, HN.out.1, HN.out.2.1, HN.out.2.2.1, HN.out.2.2.2⟩
                case measure => simp [intS]; omega
              · obtain rfl : j = y := by omega
                have hd3 : decide (((x + j : Nat) : Int) < (x : Int) + (j : Int)) = false := decide_eq_false (by omega)
                have HN := Lib.hid (And.intro hM (And.intro hOn hrow))
                clear hM hOn hrow hK
                go_wp2
                go_roundw
                case rel => exact ⟨q + 1, ow2, by omega, by go_num, by rw [HFR.out.2.2], HN.out.1.cong (fun i => (HFR.out.2.1 i).symm), HN.out.2.1, HN.out.2.2⟩
                case measure => simp [intS]; omega
          · obtain rfl : q = out.length := by omega
            have hts : out.take out.length = out := List.take_length
            rw [hts] at hM
            have hlens : (lens (out.take out.length) : Int) = (k3 : Int) := by rw [hts]; omega
            have hcnt3 := H3.out.2.2.2.2.2.2.2.2
            simp only [if_false, Bool.false_eq_true] at hcnt3
            have hln3' : (lens out : Int) = k3 := by omega
            have hmf : setA (flagsOf ow) out false = flagsOf ow1 := marked_flags hM (by omega) H3.out.2.2.2.2.1
            have hcf : (cnt (flagsOf ow1) : Int) = (cnt (flagsOf ow) : Int) - (k3 : Int) := by rw [← hmf]; omega
            have hsp5 : Sps w wp g r3 c A (flagsOf ow1) := by
              rw [← hmf]
              exact H3.out.2.2.1.keepB (KeepB.of_only H3.out.2.2.2.2.2.2.2.1 hOn (by decide) (by decide)) ((Only.of_below H3.out.2.2.1.bel []).trans hOn (fun _ h => by simp at h; subst h; exact .inr hob)).nil
            have hg5 : Grid w wp (.slice AL ls.length cL) ls := (HO.out.grid.keep H3.out.1).of_only H3.out.2.2.2.2.2.2.2.1 hOn
            have hv5 : OwnE wp w.heap.size (.slice A3 (natE out).length c3) (natE out) := by
              refine row_of (H3.out.2.2.2.1.weaken HS.out.bel.size) fun k' hm => ?_
              obtain ⟨cs', hb'⟩ := own_typed H3.out.2.2.2.1 (mem_rowOf.1 hm)
              exact hOn.block k' hb'.lt (fun hm => by simp at hm; subst hm; exact hb'.ne_ H3.out.2.2.2.2.2.2.2.1 (by decide) rfl)
            have hh5 : Hist ow1 (ls.map (·.2) ++ [out]) := HO.out.hist.app H3.out.2.2.2.2.1 H3.out.2.2.2.2.2.1 (by
              rw [List.length_map, HO.out.num]
              exact hM)
            rw [show (natE out).length = out.length from by simp [natE]] at hv5
            have h5 : Onc5 w wp g c o m k A (.slice AL ls.length cL) ow1 ls (.slice A3 out.length c3) out := ⟨⟨r3, hsp5⟩, hrow, hg5, hv5, by rw [hM.1]; exact hlen3, HO.out.num, hh5⟩
            have hwf : IntKind.i64.wrap ((cnt (flagsOf ow) : Int) - (k3 : Int)) = (cnt (flagsOf ow1) : Int) := by rw [hcf, IntKind.wrap_i64]; omega
            have HF5 := Lib.hid (sfree_any hsp5.at_.blk)
            have H5 := Lib.hid h5
            clear hM hOn hrow hXr hmf hsp5 hg5 hv5 hh5 h5 hcnt3 hln3' hcf hts
            rw [hlens]
            clear hlens
            go_wp2_with fail
            refine HF5.out.mono ?_
            rintro e w' ⟨rfl, rfl⟩
            clear HF5
            have hbr := build_row A3 out.length c3
            have hlw : ls.length = k := H5.out.num
            have HLW := Lib.hid hlw
            clear hlw
            go_upto_region 33 with (have _h := hbr; refine app_grid (.tmp 127) (.tmp 129) rfl rfl (.slice AL ls.length cL) ls rfl (H5.out.grid.keep (KeepT.below ((Below.refl _ _).alloc (Nat.le_refl _) _))) (.slice A3 out.length c3) out (H5.out.val.under2 ((Below.refl _ _).alloc (Nat.le_refl _) _)) wp.heap.size 1 rfl ((Blk.new wp 36 #[(.slice A3 out.length c3)]).cell 0) (by rw [HLW.out]; omega) (by obtain ⟨r, hs⟩ := H5.out.sp; have := hs.bel.size; simp; omega) ?_; intro lv2 W7 hG7 hg7 hr7; clear _h hbr)
            obtain ⟨A7, c7, rfl⟩ := hG7.form
            have h7 := H5.out.app hg7 hr7 hG7
            clear hG7 hg7 hr7
            generalize hLS : ls ++ [((.slice A3 out.length c3), out)] = LS at *
            have H7 := Lib.hid h7
            have hq : LS.length = k + 1 := h7.num
            obtain ⟨r7, hs7⟩ := h7.sp
            have HS7 := Lib.hid hs7
            have HQ := Lib.hid hq
            clear h7 hs7 hLS HLW hq
            by_cases hkb : k < lb.length
            · obtain ⟨ad2, y, rfl, -, -, b0⟩ := (show Ints W7 w.heap.size Ab lb from HRB.out.below HS7.out.bel).get hkb
              have hq := HQ.out
              obtain ⟨kk, hkk, hkx⟩ := modq y LS.length (by omega) (by omega)
              have hwq : IntKind.u64.wrap (LS.length : Int) = (LS.length : Int) := by rw [IntKind.wrap_u64]; omega
              have hq0 : ¬ (LS.length = 0) := by omega
              have hq1 : ¬ ((LS.length : Int) = 0) := by omega
              have hq2 : ((LS.length : Int) == 0) = false := by simpa using hq0
              have hb0 : 0 < LS.length := by omega
              have hk30 : LS.length ≤ 1000 := by omega
              clear hq
              obtain ⟨p, hp⟩ : ∃ p, LS[kk]? = some p := ⟨_, List.getElem?_eq_getElem hkk⟩
              obtain ⟨b7, c7', hv7, hb7⟩ := H7.out.grid.block hb0
              injection hv7 with hA7 _ hc7
              subst hA7 hc7
              obtain ⟨q2, q3, hvp⟩ := H7.out.grid.get hp
              obtain ⟨pv, pe⟩ := p
              simp only at q2 hvp
              obtain ⟨E, cE, rfl, -⟩ := hvp.form
              have hH7 := H7.out.hist
              have hpe : (LS.map (·.2))[kk]? = some pe := by simp [hp]
              obtain ⟨hok7, hset7, hH8⟩ := hH7.give hpe
              rw [show ((kk + 1 : Nat) : Int) = (kk : Int) + 1 from by omega] at hset7 hH8
              have hpel : (natE pe).length ≤ 65536 := by
                have h1 := hok7.cnt
                have h2 : (natE pe).length = pe.length := by simp [natE]
                have h3 := len_lens (hH7.good kk pe hpe).2
                have h4 := cnt_le (setA (flagsOf ow1) pe true)
                rw [hok7.len, flagsOf_len, H7.out.len] at h4
                simp at h1
                omega
              have HGV := Lib.hid (give_T (natE pe) (fun e he => by
                simp only [natE, List.mem_map] at he
                obtain ⟨e', he', rfl⟩ := he
                have h1 := hok7.within e' he'
                rw [flagsOf_len, H7.out.len] at h1
                refine ⟨⟨?_, ?_⟩, ?_, ?_⟩ <;> simp <;> omega) HS7.out hvp hpel)
              have hyes : ∀ ns, TurnOk (flagsOf ow1) (natE pe) true ns → ns = pe := fun ns h => (natE_inj h.1).symm
              have hok8 : TurnOk (flagsOf ow1) (natE pe) true pe := ⟨rfl, (hH7.good kk pe hpe).2, hok7⟩
              have hcf := cnt_freed ow1 ((kk : Int) + 1) (by omega)
              have hbrow := own_typed H7.out.grid.own (k := b7) rfl
              have HP := Lib.hid (And.intro hyes (And.intro hok8 (And.intro hset7 (And.intro hH8 (And.intro hcf hbrow)))))
              have HF7 := Lib.hid (sfree_any HS7.out.at_.blk)
              clear hvp hH7 hpe hok7 hset7 hH8 hpel hyes hok8 hcf hp hbrow
              go_wp2_with fail
              refine HF7.out.mono ?_
              rintro e w' ⟨rfl, rfl⟩
              clear HF7
              go_wp2_with fail
              refine HGV.out.mono ?_
              rintro e8 W8 ⟨hk8, hz8, r8, ⟨ns, hok, rfl, hs8⟩ | ⟨hno, rfl, hs8⟩⟩
              case inr => exact absurd HP.out.2.1 (hno pe)
              obtain rfl := HP.out.1 ns hok
              rw [HP.out.2.2.1] at hs8
              have hr8 : Blk W8 o 3 (i64s ow1).toArray := H7.out.row.of (hk8 _ _ _ H7.out.row (by decide) (by decide))
              have hg8 := H7.out.grid.keep hk8
              have H8 := Lib.hid (And.intro hs8 (And.intro hr8 hg8))
              have hol8 : (ow1).length = m := H7.out.len
              have HOL := Lib.hid hol8
              have hwkk : IntKind.i64.wrap ((kk : Int) + 1) = (kk : Int) + 1 := by rw [IntKind.wrap_i64]; omega
              clear hs8 hr8 hg8 hok hk8 hz8 HGV q2 q3 b0 hol8
              go_wp2_with fail
              go_loopw [22, 156] (fun sv i wr => ∃ q' : Nat, q' ≤ m ∧ i = .int .i64 q' ∧ sv = .int .i64 ((ow1).take q' |>.countP (fun v => decide (v = ((kk : Int) + 1)))) ∧ Only [o] W8 wr ∧ Blk wr o 3 (i64s (((ow1).take q').map (freed ((kk : Int) + 1)) ++ (ow1).drop q')).toArray) (fun _ i _ => m - (intS i).toNat)
              case atStart => exact ⟨0, by omega, rfl, by simp, Only.refl _ _, by simpa using H8.out.2.1⟩
              case round =>
                obtain ⟨q', hq', rfl, rfl, hOn, hrow⟩ := hrel
                obtain ⟨wz, hwz⟩ : ∃ wz, wz = wr := ⟨_, rfl⟩
                subst hwz
                have hcl : ((ow1).take q').countP (fun v => decide (v = ((kk : Int) + 1))) ≤ q' := Nat.le_trans List.countP_le_length (by simp; omega)
                have hwi : IntKind.i64.wrap ((q' : Int) + 1) = (q' : Int) + 1 := by rw [IntKind.wrap_i64]; omega
                by_cases hlq : q' < m
                · obtain ⟨vi, hvi⟩ : ∃ vi, (ow1)[q']? = some vi := ⟨_, List.getElem?_eq_getElem (by rw [HOL.out]; exact hlq)⟩
                  have htl : (((ow1).take q').map (freed ((kk : Int) + 1))).length = q' := by simp [HOL.out]; omega
                  have hdr : (ow1).drop q' = vi :: (ow1).drop (q' + 1) := by
                    rw [List.drop_eq_getElem_cons (by rw [HOL.out]; exact hlq)]
                    rw [List.getElem?_eq_getElem (by rw [HOL.out]; exact hlq)] at hvi
                    injection hvi with hvi
                    rw [hvi]
                  have hcur : (((ow1).take q').map (freed ((kk : Int) + 1)) ++ (ow1).drop q')[q']? = some vi := by
                    rw [List.getElem?_append_right (by omega), htl, Nat.sub_self, hdr]
                    rfl
                  have htk : (ow1).take (q' + 1) = (ow1).take q' ++ [vi] := by rw [List.take_add_one, hvi]; rfl
                  obtain ⟨z2, z3⟩ := i64s_cell hrow hcur
                  by_cases hvk : vi = (kk : Int) + 1
                  · have hb : (vi == (kk : Int) + 1) = true := by simpa using hvk
                    have hset := hrow.set_ q' (.int .i64 0)
                    rw [i64s_set, List.set_append_right _ _ (by omega), htl, Nat.sub_self, hdr, List.set_cons_zero] at hset
                    have hlist : ((ow1).take q').map (freed ((kk : Int) + 1)) ++ (0 :: (ow1).drop (q' + 1)) = ((ow1).take (q' + 1)).map (freed ((kk : Int) + 1)) ++ (ow1).drop (q' + 1) := by
                      rw [htk, List.map_append, List.append_assoc]
                      simp [freed, hvk]
                    rw [hlist] at hset
                    have hcp : ((ow1).take (q' + 1)).countP (fun v => decide (v = ((kk : Int) + 1))) = ((ow1).take q').countP (fun v => decide (v = ((kk : Int) + 1))) + 1 := by
                      rw [htk, List.countP_append]
                      simp [hvk]
                    have HN := Lib.hid (And.intro hcp (And.intro (hOn.setCell (p := ⟨o, q', none⟩) (.inl (by simp)) (.int .i64 0)) hset))
                    have hws : IntKind.i64.wrap ((((ow1).take q').countP (fun v => decide (v = ((kk : Int) + 1))) : Int) + 1) = (((ow1).take q').countP (fun v => decide (v = ((kk : Int) + 1))) : Int) + 1 := by rw [IntKind.wrap_i64]; omega
                    clear hrow hOn hdr hcur htk hset hlist hcp htl
                    generalize ((ow1).take q').countP (fun v => decide (v = ((kk : Int) + 1))) = cc at *
                    subst hvk
                    go_wp2
                    go_roundw
                    case rel => exact ⟨q' + 1, by omega, by go_num, by rw [HN.out.1]; go_num, HN.out.2.1, HN.out.2.2⟩
                    case measure => simp [intS]; omega
                  · have hb : (vi == (kk : Int) + 1) = false := by simpa using hvk
                    have hlist : ((ow1).take q').map (freed ((kk : Int) + 1)) ++ (ow1).drop q' = ((ow1).take (q' + 1)).map (freed ((kk : Int) + 1)) ++ (ow1).drop (q' + 1) := by
                      rw [htk, List.map_append, List.append_assoc, hdr]
                      simp [freed, hvk]
                    rw [hlist] at hrow
                    have hcp : ((ow1).take (q' + 1)).countP (fun v => decide (v = ((kk : Int) + 1))) = ((ow1).take q').countP (fun v => decide (v = ((kk : Int) + 1))) := by
                      rw [htk, List.countP_append]
                      simp [hvk]
                    have HN := Lib.hid (And.intro hcp (And.intro hOn hrow))
                    have HVK := Lib.hid hvk
                    clear hrow hOn hdr hcur htk hlist hcp htl
                    go_wp2
                    go_roundw
                    case rel => exact ⟨q' + 1, by omega, by go_num, by rw [HN.out.1], HN.out.2.1, HN.out.2.2⟩
                    case measure => simp [intS]; omega
                · obtain rfl : q' = m := by omega
                  have htm : (ow1).take q' = ow1 := by rw [← HOL.out]; exact List.take_length
                  have hdm : (ow1).drop q' = [] := by rw [← HOL.out]; exact List.drop_length
                  rw [htm, hdm, List.append_nil] at hrow
                  have hbel : Below w.heap.size w wz := ((Only.of_below H8.out.1.bel []).trans hOn (fun _ h => by simp at h; subst h; exact .inr hob)).nil
                  have hs9 : Sps w wz g r8 c A (flagsOf ((ow1).map (freed ((kk : Int) + 1)))) := H8.out.1.keepB (KeepB.of_only H8.out.2.1 hOn (by decide) (by decide)) hbel
                  have hg9 := H8.out.2.2.of_only H8.out.2.1 hOn
                  have hFs := sfree_any hs9.at_.blk
                  have hcf := HP.out.2.2.2.2.1
                  have hc1 := cnt_le (flagsOf ((ow1).map (freed ((kk : Int) + 1))))
                  rw [flagsOf_len, List.length_map, HOL.out] at hc1
                  have hwa : IntKind.i64.wrap ((cnt (flagsOf ow1) : Int) + (((ow1).take q').countP (fun v => decide (v = ((kk : Int) + 1))) : Int)) = (cnt (flagsOf ((ow1).map (freed ((kk : Int) + 1)))) : Int) := by
                    rw [htm, hcf, IntKind.wrap_i64]
                    omega
                  have HFS := Lib.hid hFs
                  obtain ⟨csb, hbb⟩ := own_typed hg9.own (k := b7) rfl
                  have q2' : ∃ u, wz.cell? ⟨b7, kk, none⟩ = some u := by
                    obtain ⟨p9, hp9⟩ : ∃ p, LS[kk]? = some p := ⟨_, List.getElem?_eq_getElem hkk⟩
                    exact ⟨_, (hg9.get hp9).1⟩
                  have q3 : wz.frozen? ⟨b7, kk, none⟩ = false := World.ownsRow.frozenAt hg9.own kk
                  obtain ⟨u9, q2⟩ := q2'
                  have hne : o ≠ b7 := hrow.ne_ hbb (by decide)
                  have hfin : Onc w (wz.setCell ⟨b7, kk, none⟩ (.slice none 0 0)) g c o q' (k + 1) A (.slice (some ⟨b7, 0, none⟩) LS.length c7) ((ow1).map (freed ((kk : Int) + 1))) (LS.set kk (.slice none 0 0, [])) := by
                    have hgr := hg9.reset kk
                    rw [List.length_set] at hgr
                    refine ⟨⟨r8, hs9.keepB (KeepB.set hbb _ (by decide) (by decide)) (hbel.setCell (p := ⟨b7, kk, none⟩) (by show w.heap.size ≤ b7; exact hb7) _)⟩, hrow.far (p := ⟨b7, kk, none⟩) hne _, hgr, by rw [List.length_map]; exact HOL.out, by rw [List.length_set]; exact HQ.out, ?_⟩
                    rw [List.map_set]
                    exact HP.out.2.2.2.1
                  have HFIN := Lib.hid hfin
                  clear hrow hOn hbel hs9 hg9 hFs hcf hc1 hbb hfin htm hdm hcl
                  have hkl : (kk : Int) < (LS.length : Int) := by omega
                  go_wp2_with fail
                  refine HFS.out.mono ?_
                  rintro e w' ⟨rfl, rfl⟩
                  clear HFS
                  go_wp2
                  go_roundw
                  case rel => exact ⟨k + 1, _, _, by omega, by go_num, HFIN.out⟩
                  case measure => simp [intS]; omega
            · have hdk : decide ((k : Int) < (lb.length : Int)) = false := decide_eq_false (by omega)
              have hdk2 : decide (k < lb.length) = false := decide_eq_false hkb
              go_wp2
              go_roundw
              case rel => exact ⟨k + 1, _, LS, by omega, by go_num, H7.out⟩
              case measure => simp [intS]; omega
    · obtain rfl : k = la.length := by omega
      have hB := HS.out.bel
      have HBB := Lib.hid hB
      clear hB
      go_wp2
      go_ret
      exact ⟨rfl, HBB.out⟩
end Go.Proofs.Ytliockcbnmbhnaa
