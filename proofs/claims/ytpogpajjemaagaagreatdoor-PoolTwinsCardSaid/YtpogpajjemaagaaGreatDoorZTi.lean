/- Texts of the walk, joined. -/
import Derived.Test.YtpogpajjemaagaaGreatDoorZTh
namespace Go.Proofs.YtpogpajjemaagaaGreatDoor
set_option linter.unusedSimpArgs false
set_option linter.unusedVariables false
set_option maxRecDepth 100000
open Go.Proofs.Tryz
set_option maxHeartbeats 16000000
open Go.RowKit Go.BigFrame
open List (append_assoc append_nil drop_eq_getElem_cons drop_length flatMap_append flatMap_cons flatMap_nil length_cons length_map length_pos_iff length_replicate length_set length_singleton length_take map_append mem_append mem_append_left mem_append_right mem_cons mem_cons_self mem_flatMap mem_of_getElem? nil_append setIfInBounds_toArray singleton_append take_add_one take_append_drop take_length take_of_length_le take_zero)
variable {W w w' w0 w1 wr : World} {B base c g gen gj gp gs k k' k1 ms n r u : Nat} {A As : OA} {bl : List Bool} {kv : KV} {F F' G P Z bs nm st tx : LN} {M M' M1 : Mod} {xs : List StepV} {told txs : List LN} {t : TypeId} {d : DM} {lv vt : Value} {a : Act} {l : List SV} {ops : Array Oper} {Q : Exit -> Act -> World -> Prop}
theorem xKE {fl : List Bool} (h : StAt w gs ms gp r c A bl fl kv) {j : Nat} (hj : j < 8) (b : Bool) : StAt (w.setCell ⟨gs, 1 + j, none⟩ (.bool b)) gs ms gp r c A (bl.set j b) fl kv := by
 have hm : ms ≠ gs := h.map.ne_blk h.blk
 have hg : gp ≠ gs := h.sp.blk.ne_ h.blk (by decide)
 refine ⟨?_, by rw [length_set]; exact h.len, h.map.of (kE _ _ _ _ hm), ⟨h.sp.blk.of (kE _ _ _ _ hg), h.sp.cap, h.sp.lim, ?_⟩, h.ne⟩
 ·have := h.blk.set_ (1 + j) (.bool b)
  have e : (stC ms bl gp).setIfInBounds (1 + j) (.bool b) = stC ms (bl.set j b) gp := by
   have hl := h.len
   unfold stC
   rw [setIfInBounds_toArray, Nat.add_comm, List.set_cons_succ, List.set_append_left _ _ (by simp; omega), List.map_set]
  rwa [e] at this
 ·rcases h.sp.row with e | ⟨e, cs, hb, hc⟩
  ·exact .inl e
  ·exact .inr ⟨e, cs, hb.of (kE _ _ _ _ (hb.ne_ h.blk (by decide))), hc⟩
theorem xQE (s : RD) : ∀ k, (flS s k).2.length = 8
 | 0 => rfl
 | k + 1 => by rw [flS, length_set]; exact xQE s k
theorem RD.flagTo_le (s : RD) : s.flagTo.bs.length <= s.bs.length := by
 unfold RD.flagTo
 split
 ·simp [RD.spoilt]
 ·exact RD.take_le _ _
theorem xKF (s : RD) : ∀ k, (flS s k).1.bs.length <= s.bs.length
 | 0 => kR _
 | k + 1 => kT (RD.flagTo_le _) (xKF s k)
def TakeTo2 (w : World) (Z : LN) (bs : LN) (e : Ending) (w' : World) : Prop :=
  Below w.heap.size w w' /\ ((tkM bs = none /\ e = .returned (.tuple #[.pointer none, errV 2])) ∨ ∃ M gs ms gp r c A kv, tkM bs = some M /\ e = .returned (.tuple #[.pointer (some ⟨gs, 0, none⟩), .nilIface]) /\ StoreAt w' (ms :: Z) gs ms gp r c A M kv /\ w.heap.size <= gs /\ w.heap.size <= ms /\ w.heap.size <= gp /\ (M.fl ≠ [] -> w.heap.size <= r))
theorem xI9 (hZ0 : ∀ z ∈ Z, z < w.heap.size) (hb : Bytes w B A bs.length bs) (hn : bs.length <= 1000000) (hP : ∀ M, tkP bs = some M -> ∃ n, InvP n M /\ n <= 1000000 /\ (putM M).length <= 3000000) :
  Calls prog 71 #[.slice A bs.length c] w (TakeTo2 w Z bs) := by
 have HR := kH (xH9 A bs.length c bs w B (by omega) hb)
 have H0 := kH (kA hb hP)
 obtain ⟨N, hN⟩ := kX ((⟨bs, false⟩ : RD).num)
 have hNr := x16 ⟨bs, false⟩
 rw [<- hN] at hNr
 have HNN := kH hN
 clear hb hP hN
 go_enter func71, ntmps71
 go_wp2_with fail
 refine HR.out.mono ?_
 rintro e w1 ⟨g, F, rfl, r1, b1⟩
 have HX := kH (x1P w1 w.heap.size F (some ⟨g, 0, none⟩) ⟨bs, false⟩ r1 b1.size)
 rw [<- HNN.out] at HX
 have hgF : g ∈ F := r1.head g (by simp [heads])
 have H1 := kH (kA r1 (kA b1 hgF))
 clear r1 b1 HR hgF
 go_wp2_with fail
 refine HX.out.mono ?_
 rintro e w2 ⟨rfl, F2, r2, o2, f2⟩
 have b2 : Below w.heap.size w w2 := H1.out.2.1.trans (o2.below (fun k hk => H1.out.1.over k (H1.out.1.head k hk)) H1.out.2.1.size)
 by_cases hok : 0 <= N /\ N <= 65536
 -- {K
 ·obtain ⟨m, rfl⟩ := Int.eq_ofNat_of_zero_le hok.1
  have HW := kH (xBD m (by omega) w2)
  have o12 := kH o2.size
  have H2 := kH (kA r2 (kA f2 b2))
  clear r2 o2 f2 b2 HX
  go_wp2_with fail
  refine HW.out.mono ?_
  rintro e w3 ⟨p, rfl, gs, ms, gp, r, c1, A1, rfl, hst, hgs, hms, hgp, hr, b3⟩
  obtain ⟨fl, hfl⟩ := kX (List.replicate m true)
  rw [<- hfl] at hst
  have hfll : fl.length <= 65536 := by rw [hfl, length_replicate]; omega
  obtain ⟨s1, hs1⟩ := kX ((⟨bs, false⟩ : RD).take 8)
  have hs1l : s1.bs.length <= 1000000 := by rw [hs1]; exact kT (RD.take_le _ _) hn
  rw [<- hs1] at H2
  have R3 := H2.out.1.below b3
  have hFl : ∀ k ∈ F, k < w2.heap.size := fun k hk => kL (H1.out.1.under k hk) o12.out
  have hz2 := H2.out.2.2.size
  have hz3 := b3.size
  have B3 : Below w.heap.size w w3 := H2.out.2.2.trans (b3.mono hz2)
  have H3 := kH (kA hst (kA R3 (kA B3 (kA hFl (kA hfl hs1)))))
  have HB := kH (kA hgs (kA hms (kA hgp (kA hr (kA hz2 hz3)))))
  clear hst R3 B3 b3 hgs hms hgp hr hFl hfl HW hz2 hz3 hs1
  go_wp2_with fail
  go_loopw [19] (fun iv wr => ∃ (k : Nat) (Fk : LN), k <= 8 /\ iv = .int .i64 k /\ StAt wr gs ms gp r c1 A1 (flS s1 k).2 fl [] /\ Srd wr w.heap.size Fk (some ⟨g, 0, none⟩) (flS s1 k).1 /\ (∀ b ∈ Fk, b ∈ F) /\ Below w.heap.size w wr /\ w3.heap.size <= wr.heap.size) (fun iv _ => 8 - (intS iv).toNat)
  case atStart => exact ⟨0, F2, by omega, rfl, H3.out.1, H3.out.2.1, H2.out.2.1, H3.out.2.2.1, kR _⟩
  case round =>
   obtain ⟨k, Fk, hk, rfl, hSk, hRk, hFk, hBk, hzk⟩ := hrel
   have hwk := wK k (by omega)
   by_cases hlt : k < 8
   -- {F
   ·have hk8 : (k : Int) < 8 := by omega
    have hdk : decide ((k : Int) < 8) = true := decide_eq_true hk8
    have RD0 : Srd wr.drew w.heap.size Fk (some ⟨g, 0, none⟩) (flS s1 k).1 := hRk.of (kR _) (fun _ _ => rfl)
    have HFL := kH (xEV wr.drew w.heap.size Fk (some ⟨g, 0, none⟩) (flS s1 k).1 RD0 hBk.size)
    have HK := kH (kA hSk (kA RD0 (kA hFk (kA hBk hzk))))
    clear hSk hRk hFk hBk hzk RD0
    go_upto_region 8 with (fail)
    refine x09 (fun _ => True) 99 (by kernel_rfl) ?_
    refine tV 0 (.pointer (some ⟨gs, 0, none⟩)) rfl (fun w hw => by kernel_rfl) trivial ?_
    refine tV 1 (.int .i64 (k : Int)) rfl (fun w hw => by kernel_rfl) trivial ?_
    refine tV 2 (.pointer (some ⟨g, 0, none⟩)) rfl (fun w hw => by kernel_rfl) trivial ?_
    refine tV 4 (.pointer (some ⟨gs, 0, none⟩)) rfl (fun w hw => by kernel_rfl) trivial ?_
    refine tV 5 (.pointer (some ⟨gs, 1, none⟩)) rfl (fun w hw => by go_simp) trivial ?_
    refine tO 3 ?_
    refine x03 (by kernel_rfl) HFL.out ?_
    rintro e w4 ⟨rfl, F4, r4, o4, f4⟩
    have S4 : StAt w4 gs ms gp r c1 A1 (flS s1 k).2 fl [] := (HK.out.1.below (x08 (kB _ _) 1)).rd o4 HK.out.2.1.readers
    refine ⟨_, rfl, trivial, ?_⟩
    simp only [nH, pu, nB, nC, nD]
    refine tO 6 ?_
    refine x0A (v := .pointer (some ⟨gs, 1 + k, none⟩)) (w' := w4) (by go_simp) ⟨trivial, ?_⟩
    simp only [nH, pu, nB, nC, nD]
    refine tO 7 ?_
    have hl8 := S4.len
    refine x2N 4 (.tmp 28) (.tmp 25) (by rfl) gs (1 + k) 122 _ (.bool (flS s1 k).1.flag) (by rfl) (by rfl) S4.blk (by simp [stC]; omega) (by kernel_rfl) rfl ?_
    refine ⟨trivial, ?_⟩
    simp only [nH, pu, nB, nC, nD]
    refine tE ?_
    obtain ⟨w5, hw5⟩ := kX (w4.setCell ⟨gs, 1 + k, none⟩ (.bool (flS s1 k).1.flag))
    have S5 : StAt w5 gs ms gp r c1 A1 (flS s1 (k + 1)).2 fl [] := by rw [hw5]; exact xKE S4 hlt _
    have o5 : Only [gs] w4 w5 := by rw [hw5]; exact (kU _ _).setCell (.inl (by simp)) _
    have hF4 : ∀ b ∈ F4, b ∈ F := fun b hb => HK.out.2.2.1 b (f4 b hb)
    have R5 : Srd w5 w.heap.size F4 (some ⟨g, 0, none⟩) (flS s1 (k + 1)).1 := r4.of o5.size (fun b hb => o5.block b (r4.under b hb) (fun hm => by
     simp at hm
     have h1 := H3.out.2.2.2.1 b (hF4 b hb)
     have h2 := HB.out.1
     omega))
    have o4' : Only (heads (some ⟨g, 0, none⟩)) wr w4 := (kO (x08 (kB wr.heap.size wr) 1) _).trans o4 (kF _ _)
    have B5 : Below w.heap.size w w5 := (HK.out.2.2.2.1.trans (o4'.below (fun b hb => H1.out.1.over b (H1.out.1.head b hb)) HK.out.2.2.2.1.size)).trans (o5.below (fun b hb => by simp at hb; have h1 := HB.out.1; have h2 := HB.out.2.2.2.2.1; omega) (by have h1 := HK.out.2.2.2.1.size; have h2 := o4'.size; omega))
    have hz5 : w3.heap.size <= w5.heap.size := by have h1 := HK.out.2.2.2.2; have h2 := o4'.size; have h3 := o5.size; omega
    rw [<- hw5]
    have HFIN := kH (kA S5 (kA R5 (kA hF4 (kA B5 hz5))))
    clear S5 o5 R5 o4' B5 hz5 hw5 S4 hl8 r4 o4 f4 HFL hF4
    go_wp2_with fail
    go_roundw
    case rel => exact ⟨k + 1, F4, by omega, by go_num, HFIN.out⟩
    case measure => simp [intS]; omega
   -- F}
   ·obtain rfl : k = 8 := by omega
    obtain ⟨s8, hs8⟩ := kX ((flS s1 8).1)
    obtain ⟨bl, hbl⟩ := kX ((flS s1 8).2)
    have hl8 : s8.bs.length <= 1000000 := by rw [hs8]; exact kT (xKF s1 8) hs1l
    rw [<- hbl] at hSk
    rw [<- hs8] at hRk
    have HX2 := kH (x1P wr w.heap.size Fk (some ⟨g, 0, none⟩) s8 hRk hBk.size)
    obtain ⟨N2, hN2⟩ := kX s8.num
    have hN2r := x16 s8
    rw [<- hN2] at HX2 hN2r
    have hmn : (⟨bs, false⟩ : RD).num.toNat = m := by rw [<- HNN.out]; exact kP m
    have HT : Hid (∀ R : Option (Mod × RD), tkN N2.toNat (s8.take 8) ⟨bl, fl, []⟩ = R -> tkN (flS ((⟨bs, false⟩ : RD).take 8) 8).1.num.toNat ((flS ((⟨bs, false⟩ : RD).take 8) 8).1.take 8) ⟨(flS ((⟨bs, false⟩ : RD).take 8) 8).2, List.replicate (⟨bs, false⟩ : RD).num.toNat true, []⟩ = R) := kH (fun R h => by
     rw [<- H3.out.2.2.2.2.2, <- hs8, <- hbl, <- hN2, hmn, <- H3.out.2.2.2.2.1]
     exact h)
    have H4 := kH (kA hSk (kA hRk (kA hFk (kA hBk hzk))))
    have ht8 := RD.take_le s8 8
    clear hSk hRk hFk hBk hzk hs8 hbl hN2 hmn
    go_wp2_with fail
    refine HX2.out.mono ?_
    rintro e w4 ⟨rfl, F4, r4, o4, f4⟩
    have S4 : StoreAt w4 (ms :: Z) gs ms gp r c1 A1 ⟨bl, fl, []⟩ [] := ⟨H4.out.1.rd o4 H4.out.2.1.readers, .nil⟩
    have hz4 := o4.size
    have B4 : Below w.heap.size w w4 := H4.out.2.2.2.1.trans (o4.below (fun b hb => H1.out.1.over b (H1.out.1.head b hb)) H4.out.2.2.2.1.size)
    have hF4 : ∀ b ∈ F4, b ∈ F := fun b hb => H4.out.2.2.1 b (f4 b hb)
    have H5 := kH (kA S4 (kA r4 (kA hF4 B4)))
    have hz34 : w3.heap.size <= w4.heap.size := kT H4.out.2.2.2.2 hz4
    clear S4 r4 o4 f4 B4 hF4 HX2 hz4
    go_wp2_with fail
    go_loopw [32] (fun iv wr => ∃ (k : Nat) (M : Mod) (sk : RD) (kvk : KV) (Fk : LN), iv = .int .i64 k /\ (k = 0 ∨ (k : Int) <= N2) /\ tkN N2.toNat (s8.take 8) ⟨bl, fl, []⟩ = tkN (N2.toNat - k) sk M /\ StoreAt wr (ms :: Z) gs ms gp r c1 A1 M kvk /\ Srd wr w.heap.size Fk (some ⟨g, 0, none⟩) sk /\ (∀ b ∈ Fk, b ∈ F) /\ Below w.heap.size w wr /\ M.fl.length = fl.length /\ M.ob.length + sk.bs.length <= 1000000 /\ w3.heap.size <= wr.heap.size) (fun iv _ => N2.toNat - (intS iv).toNat)
    case atStart => exact ⟨0, _, _, _, F4, rfl, .inl rfl, rfl, H5.out.1, H5.out.2.1, H5.out.2.2.1, H5.out.2.2.2, rfl, by simp; omega, hz34⟩
    case round =>
     obtain ⟨k, M, sk, kvk, Fk, rfl, hk, htk, hSk, hRk, hFk, hBk, hfk, hcnt, hzk⟩ := hrel
     by_cases hlt : (k : Int) < N2
     -- {G
     ·have hdk : decide ((k : Int) < N2) = true := decide_eq_true hlt
      have hwk := wK k (by omega)
      obtain ⟨j, hj⟩ : ∃ j, N2.toNat - k = j + 1 := ⟨N2.toNat - k - 1, by omega⟩
      have hj2 : N2.toNat - (k + 1) = j := by omega
      rw [hj] at htk
      have hFf : ∀ b ∈ Fk, b ∉ ms :: foot gp r M.fl := fun b hb hm => by
       have h1 := H3.out.2.2.2.1 b (hFk b hb)
       have h2 := HB.out
       rcases kQ hm with e | hm
       ·omega
       ·rcases x1X hm with e | ⟨_, e⟩ <;> omega
      have HTK := kH (xIO hSk (by simp) (fun z hz => by
       rcases kQ hz with e | hz
       ·rw [e]; exact hSk.st.map.lt
       ·have h1 := hZ0 z hz; have h2 := hBk.size; omega) hRk hBk.size (by omega) (by omega) hFf)
      have HK := kH (kA htk (kA hSk (kA hRk (kA hFk (kA hBk (kA hfk (kA hcnt (kA hzk hj2))))))))
      clear htk hSk hRk hFk hBk hfk hcnt hzk hj hj2 hFf
      go_wp2_with fail
      refine HTK.out.mono ?_
      rintro e w5 ⟨ho5, hcase⟩
      have B5 : Below w.heap.size w w5 := HK.out.2.2.2.2.1.trans (ho5.below (fun b hb => by
       have h2 := HB.out
       rcases kQ hb with e | hb
       ·rw [e]; exact H1.out.1.over g H1.out.2.2
       ·rcases kQ hb with e | hb
        ·omega
        ·rcases x1X hb with e | ⟨_, e⟩ <;> omega) HK.out.2.2.2.2.1.size)
      rcases hcase with ⟨hn5, rfl⟩ | ⟨M', s', kv', F', hsome, rfl, S5, R5, f5, hfl5, hob5, hbs5⟩
      ·have hnone : tkM bs = none := xD3 (xP9 (HT.out _ (HK.out.1.trans (xLT hn5))))
       have HFIN := kH (show TakeTo2 w Z bs (.returned (.tuple #[.pointer none, errV 2])) w5 from ⟨B5, .inl ⟨hnone, rfl⟩⟩)
       simp only [errV] at HFIN
       clear hnone hn5 B5 ho5 HTK
       go_wp2
       go_ret2
       exact HFIN.out
      ·have htk5 : tkN N2.toNat (s8.take 8) ⟨bl, fl, []⟩ = tkN (N2.toNat - (k + 1)) s' M' := by rw [HK.out.1, HK.out.2.2.2.2.2.2.2.2]; exact xEP hsome
       have hz5 := ho5.size
       have HFIN := kH (kA htk5 (kA S5 (kA R5 (kA (show ∀ b ∈ F', b ∈ F from fun b hb => HK.out.2.2.2.1 b (f5 b hb)) (kA B5 (kA (hfl5.trans HK.out.2.2.2.2.2.1) (kA (show M'.ob.length + s'.bs.length <= 1000000 by have := HK.out.2.2.2.2.2.2.1; omega) (show w3.heap.size <= w5.heap.size by have := HK.out.2.2.2.2.2.2.2.1; omega))))))))
       clear htk5 S5 R5 f5 hfl5 hob5 hbs5 B5 ho5 hsome HTK hz5
       go_wp2_with fail
       go_roundw
       case rel => exact ⟨k + 1, M', s', kv', F', by go_num, .inr (by omega), HFIN.out⟩
       case measure => simp [intS]; omega
     -- G}
     -- {H
     ·have hdk : decide ((k : Int) < N2) = false := decide_eq_false hlt
      have hj : N2.toNat - k = 0 := by omega
      rw [hj] at htk
      have htp : tkP bs = some M := xDN ⟨by rw [<- HNN.out]; exact hok.1, by rw [<- HNN.out]; exact hok.2⟩ (HT.out _ (htk.trans rfl))
      obtain ⟨n9, hI, hn9, hlen9⟩ := H0.out.2 M htp
      have HPUT := kH (xGF hSk hI hn9 hlen9)
      have HK := kH (kA htp (kA hSk hBk))
      have HLN := kH (kT hlen9 (by decide : 3000000 <= 9000000))
      clear htk hSk hRk hFk hBk hfk hcnt hzk hj hI htp hlen9
      go_wp2_with fail
      refine HPUT.out.mono ?_
      rintro e w5 ⟨v, rfl, hv, b5, hsm⟩
      obtain ⟨Av, cv, rfl⟩ := xLL hv
      have B5 : Below w.heap.size w w5 := HK.out.2.2.trans (b5.mono HK.out.2.2.size)
      have hEQ := x74 Av A (putM M).length bs.length cv c _ _ (putM M) bs w5 (hv.bytes hsm) (H0.out.1.since B5)
      have HEQ := kH hEQ
      have S5 := HK.out.2.1.below b5
      have H6 := kH (kA B5 S5)
      clear hEQ hv b5 hsm B5 S5 HPUT
      generalize (putM M).length = np at *
      go_wp2_with fail
      refine HEQ.out.mono ?_
      rintro e w6 ⟨rfl, rfl⟩
      by_cases hpe : putM M = bs
      ·have hbe : (putM M == bs) = true := by rw [hpe]; exact beq_self_eq_true bs
       have hfl : M.fl ≠ [] -> w.heap.size <= r := fun _ => by have := HB.out; omega
       have HFIN := kH (show TakeTo2 w Z bs (.returned (.tuple #[.pointer (some ⟨gs, 0, none⟩), .nilIface])) w5 from ⟨H6.out.1, .inr ⟨M, gs, ms, gp, r, c1, A1, kvk, xCR HK.out.1 hpe, rfl, H6.out.2, by have := HB.out; omega, by have := HB.out; omega, by have := HB.out; omega, hfl⟩⟩)
       generalize (putM M == bs) = q at *
       subst hbe
       clear hfl HEQ hpe
       go_wp2
       go_ret2
       exact HFIN.out
      ·have hbe : (putM M == bs) = false := by simpa using hpe
       have HFIN := kH (show TakeTo2 w Z bs (.returned (.tuple #[.pointer none, errV 2])) w5 from ⟨H6.out.1, .inl ⟨xQ5 HK.out.1 hpe, rfl⟩⟩)
       simp only [errV] at HFIN
       generalize (putM M == bs) = q at *
       subst hbe
       clear HEQ hpe
       go_wp2
       go_ret2
       exact HFIN.out
     -- H}
 -- K}
 -- {J
 ·have HW := kH (xJL N (by omega) w2)
  simp only [errV] at HW
  have hnone : tkM bs = none := xD3 (xLS (by rw [<- HNN.out]; exact hok))
  have HFIN := kH (show TakeTo2 w Z bs (.returned (.tuple #[.pointer none, errV 2])) w2 from ⟨b2, .inl ⟨hnone, rfl⟩⟩)
  simp only [errV] at HFIN
  clear r2 o2 f2 b2 HX hnone
  go_wp2_with fail
  refine HW.out.mono ?_
  rintro e w3 ⟨rfl, rfl⟩
  go_wp2
  go_ret2
  exact HFIN.out
 -- J}
theorem xJ5 {W : Wk} {x : StepV} : (stepW bl W x).1.told.length <= W.told.length + 1 := by
 unfold stepW
 split
 ·simp
 split
 ·unfold becomeW
  split <;> simp
 split
 ·unfold becomeW
  split <;> simp
 split
 ·split
  ·unfold insideW
   split
   ·split <;> simp
   split
   ·simp
   split
   ·split <;> simp
   split
   ·simp
   split
   ·simp
   split
   ·simp
   split
   ·simp
   ·simp
  ·simp
 ·simp
theorem xCS : ∀ {xs : List StepV} {W : Wk}, (runW bl W xs).1.told.length <= W.told.length + xs.length
 | [], W => by simp [runW]
 | x :: xs, W => by
  have h1 := xJ5 (bl := bl) (W := W) (x := x)
  rw [x3L, length_cons]
  split
  ·have h2 := xCS (xs := xs) (W := (stepW bl W x).1)
   omega
  ·omega
theorem xFZ (hd : DoR M nm xs M' k told) : told.length <= xs.length := by
 cases hd with
 | range => simp
 | step => simp
 | full => simp
 | done _ _ _ _ _ =>
  have h := xCS (bl := M.bl) (xs := xs) (W := startW M (keyB nm))
  have h0 : (startW M (keyB nm)).told = [] := by
   unfold startW
   split <;> rfl
  rw [h0] at h
  simpa using h
theorem xKT {B' ct ct' : Nat} {T T' : OA} (h : ToldR w B (.slice T told.length ct) told) (h' : ToldR w B' (.slice T' told.length ct') told) (hm : told.length <= 1000) :
  Calls prog 32 #[.slice T told.length ct, .slice T' told.length ct'] w fun e w' => e = .returned (.bool true) /\ Below w.heap.size w w' := by
 obtain ⟨T1, c0, tv, e, o1, o2⟩ := h
 injection e with e1 _ e3
 subst e1 e3
 obtain ⟨T2, c0', tv', e', o1', o2'⟩ := h'
 injection e' with e1 _ e3
 subst e1 e3
 exact xII (kV o1) (kV o1') o2 o2' hm
section
theorem Odd.mapAt {e : TypeId} {f : Int -> Option Value} (h : MapAt w k f) : Odd w e k := fun cs hb => h.ne_blk hb rfl
section
variable {w0 w w' : World} {g gj n gen u c : Nat} {d : DM} {st : LN} {txs : List LN} {F : LN} {A : OA} {vt : Value} {us : List Value}
theorem JX.odd (h : JX w0 w g gj d n gen st txs u F A c vt us) (h1 : 176 ≠ t) (h2 : 35 ≠ t) (h3 : 106 ≠ t) (h4 : 208 ≠ t) : ∀ k ∈ jf gj vt F, Odd w t k := fun k hk => by
 unfold jf at hk
 rw [mem_cons, mem_append] at hk
 obtain ⟨gm, v, rfl, hl⟩ := h.disk
 rcases hk with rfl | hk | hk
 ·exact Odd.blk h.jb h1
 ·obtain ⟨cs, hb⟩ := x0J h.tx.1 (x00.1 hk)
  exact Odd.blk hb h2
 ·simp only [mem_cons] at hk
  rcases hk with rfl | rfl | hk
  ·exact Odd.blk hl.blk h3
  ·obtain ⟨f, hm, _⟩ := hl.map
   exact Odd.mapAt hm
  ·obtain ⟨cs, hb⟩ := x0J hl.row (x00.1 hk)
   exact Odd.blk hb h4
end
section
variable {w w' : World} {Z : LN} {gs ms gp r c : Nat} {A : OA} {M : Mod} {kv : KV}
def OffS (w : World) (k : Nat) : Prop := Odd w 122 k /\ Odd w 137 k /\ Odd w 5 k /\ Odd w 198 k /\ Odd w 190 k /\ Odd w 4 k
theorem StoreAt.past (h : StoreAt w Z gs ms gp r c A M kv) (ho : Only G w w') (hZ : ∀ k ∈ G, k ∈ Z /\ k ≠ ms) (hO : ∀ k ∈ G, OffS w k) : StoreAt w' Z gs ms gp r c A M kv := by
 refine ⟨h.st.off ho (fun k hk => ⟨fun e => (hO k hk).1 _ (e ▸ h.st.blk), (hZ k hk).2, fun hf => ?_⟩), h.obs.imp fun p q hr => ⟨hr.1, ?_⟩⟩
 ·rcases x1X hf with rfl | ⟨hf2, rfl⟩
  ·exact (hO _ hk).2.2.2.2.1 _ h.st.sp.blk
  ·rcases h.st.sp.row with e | ⟨_, cs, hb, _⟩
   ·exact absurd e hf2
   ·exact (hO _ hk).2.2.2.2.2 _ hb
 ·obtain ⟨go, mb, c1, ce, D, E, kv1, e, hmb, hat⟩ := hr.2
  exact ⟨go, mb, c1, ce, D, E, kv1, e, hmb, hat.only ho (fun k hk _ => ⟨(hO k hk).2.1, (hO k hk).2.2.1, (hO k hk).2.2.2.1⟩) (fun hm => hmb (hZ _ hm).1)⟩
end
theorem JX.offS {us : List Value} (h : JX w0 w g gj d n gen st txs u F A c vt us) : ∀ k ∈ jf gj vt F, OffS w k := fun k hk =>
  ⟨h.odd (by decide) (by decide) (by decide) (by decide) k hk, h.odd (by decide) (by decide) (by decide) (by decide) k hk, h.odd (by decide) (by decide) (by decide) (by decide) k hk, h.odd (by decide) (by decide) (by decide) (by decide) k hk, h.odd (by decide) (by decide) (by decide) (by decide) k hk, h.odd (by decide) (by decide) (by decide) (by decide) k hk⟩
structure JS where
 f : Int -> Sec
 s : Nat
 gen : Nat
 st : LN
 txs : List LN
 u : Nat
 b : Bool
 l : Nat
structure PX where
 gq : Nat
 g : Nat
 gj : Nat
 A : OA
 c : Nat
 vt : Value
 us : List Value
 F : LN
 gs : Nat
 ms : Nat
 gp : Nat
 r : Nat
 cs : Nat
 As : OA
 kv : KV
 Z : LN
structure JSo (w0 w : World) (n : Nat) (x : PX) (J : JS) (M : Mod) : Prop where
 jx : JX w0 w x.g x.gj (DM.up J.b n J.f J.s J.l) n J.gen J.st J.txs J.u x.F x.A x.c x.vt x.us
 so : StoreAt w x.Z x.gs x.ms x.gp x.r x.cs x.As M x.kv
 nw : ∀ k ∈ x.ms :: foot x.gp x.r M.fl, w0.heap.size <= k
 gsN : w0.heap.size <= x.gs
 zj : ∀ k ∈ jf x.gj x.vt x.F, k ∈ x.Z /\ k ≠ x.ms
 zm : x.ms ∈ x.Z
 zu : ∀ z ∈ x.Z, z < w.heap.size
theorem JSo.below {x : PX} {J : JS} (h : JSo w0 w n x J M) (hb : Below w.heap.size w w') : JSo w0 w' n x J M :=
  ⟨h.jx.below hb, h.so.below hb, h.nw, h.gsN, h.zj, h.zm, fun z hz => kL (h.zu z hz) hb.size⟩
theorem JSo.noted {x : PX} {J J' : JS} {A' : OA} {c' : Nat} {vt' : Value} {us' : List Value} (h : JSo w0 w n x J M) (hj : JX w0 w' x.g x.gj (DM.up J'.b n J'.f J'.s J'.l) n J'.gen J'.st J'.txs J'.u F' A' c' vt' us') (ho : Only (jf x.gj x.vt x.F) w w') (hf : Fresh w (jf x.gj x.vt x.F) (jf x.gj vt' F')) :
  JSo w0 w' n {x with F := F', A := A', c := c', vt := vt', us := us', Z := jf x.gj vt' F' ++ x.Z} J' M := by
 have hs := h.so.st.map.lt
 refine ⟨hj, (h.so.wide (Z' := jf x.gj vt' F' ++ x.Z) (kB _ _) (fun z hz => ?_)).past ho (fun k hk => ⟨mem_append_right _ (h.zj k hk).1, (h.zj k hk).2⟩) h.jx.offS, h.nw, h.gsN, fun k hk => ⟨mem_append_left _ hk, ?_⟩, mem_append_right _ h.zm, fun z hz => ?_⟩
 ·rcases mem_append.1 hz with hz | hz
  ·rcases hf z hz with h1 | h1
   ·exact .inl (h.zj z h1).1
   ·exact .inr h1
  ·exact .inl hz
 ·rcases hf k hk with h1 | h1
  ·exact (h.zj k h1).2
  ·show k ≠ x.ms
   omega
 ·rcases mem_append.1 hz with hz | hz
  ·exact hj.under z hz
  ·exact kL (h.zu z hz) ho.size
theorem JSo.swap {x : PX} {J : JS} {cs : Nat} (h : JSo w0 w n x J M) (hb : Below w.heap.size w w') (hso : StoreAt w' Z gs ms gp r cs As M' kv) (hZ : ∀ z ∈ x.Z, z ∈ Z) (hm : ms ∈ Z) (hu : ∀ z ∈ Z, z < w'.heap.size) (hn : ∀ k ∈ ms :: foot gp r M'.fl, w.heap.size <= k) (hg : w.heap.size <= gs) :
  JSo w0 w' n {x with gs := gs, ms := ms, gp := gp, r := r, cs := cs, As := As, kv := kv, Z := Z} J M' := by
 have hs := h.jx.bel.size
 refine ⟨h.jx.below hb, hso, fun k hk => kT hs (hn k hk), kT hs hg, fun k hk => ⟨hZ k (h.zj k hk).1, ?_⟩, hm, hu⟩
 have h1 := h.jx.under k hk
 have h2 := hn ms (by simp)
 show k ≠ ms
 omega
end
def stepB (x : StepV) : LN := numB x.kd ++ (numB x.at_ ++ (numB x.ln ++ (sttxB x.nm ++ sttxB x.dt)))
def opB (nm : LN) (xs : List StepV) : LN := 1 :: (sttxB nm ++ (numB (xs.length : Nat) ++ xs.flatMap stepB))
def blB (cl : Int) : LN := 2 :: numB cl
structure StepOk (x : StepV) : Prop where
 kd : -9223372036854775808 <= x.kd /\ x.kd <= 9223372036854775807
 at_ : -9223372036854775808 <= x.at_ /\ x.at_ <= 9223372036854775807
 ln : -9223372036854775808 <= x.ln /\ x.ln <= 9223372036854775807
 nm : x.nm.length <= 1000000 /\ Small x.nm
 dt : x.dt.length <= 1000000 /\ Small x.dt
theorem xK1 (x : StepV) : (stepB x).length = 40 + x.nm.length + x.dt.length := by
 simp [stepB, x1F, x04]
 omega
theorem x83 (nm : LN) (xs : List StepV) : (opB nm xs).length = 17 + nm.length + (xs.map fun x => 40 + x.nm.length + x.dt.length).sum := by
 simp [opB, x1F, x04, x7M, xK1]
 omega
theorem x7Q (h : Small bs) : Small (sttxB bs) := fun b hb => by
 unfold sttxB at hb
 rcases mem_append.1 hb with hb | hb
 ·exact x0Y _ b hb
 ·exact h b hb
theorem Small.app {a b : LN} (ha : Small a) (hb : Small b) : Small (a ++ b) := fun x hx => by
 rcases mem_append.1 hx with hx | hx
 ·exact ha x hx
 ·exact hb x hx
theorem xFR {x : StepV} (h1 : Small x.nm) (h2 : Small x.dt) : Small (stepB x) :=
  Small.app (x0Y _) (Small.app (x0Y _) (Small.app (x0Y _) (Small.app (x7Q h1) (x7Q h2))))
theorem xBO (h : Small nm) (hx : ∀ x ∈ xs, Small x.nm /\ Small x.dt) : Small (opB nm xs) := fun b hb => by
 unfold opB at hb
 rcases kQ hb with rfl | hb
 ·omega
 ·refine Small.app (x7Q h) (Small.app (x0Y _) (fun c hc => ?_)) b hb
  obtain ⟨x, hx1, hx2⟩ := mem_flatMap.1 hc
  exact xFR (hx x hx1).1 (hx x hx1).2 c hx2
theorem xKN (cl : Int) : Small (blB cl) := fun b hb => by
 unfold blB at hb
 rcases kQ hb with rfl | hb
 ·omega
 ·exact x0Y _ b hb
theorem xPR (cl : Int) : (blB cl).length = 9 := by simp [blB, x04]
theorem xPI (b : Nat) (rest : LN) : (⟨b :: rest, false⟩ : RD).byte = b /\ (⟨b :: rest, false⟩ : RD).take 1 = ⟨rest, false⟩ := by
 have h := x7V [b] rest
 simp only [length_singleton, singleton_append] at h
 have h1 : (⟨b :: rest, false⟩ : RD).got 1 = [b] := h.2
 have h2 : (⟨b :: rest, false⟩ : RD).take 1 = ⟨rest, false⟩ := h.1
 refine ⟨?_, h2⟩
 unfold RD.byte
 rw [h1]
 rfl
theorem xIT (x : StepV) (rest : LN) : stepB x ++ rest = numB x.kd ++ (numB x.at_ ++ (numB x.ln ++ (sttxB x.nm ++ (sttxB x.dt ++ rest)))) := by
  simp [stepB, append_assoc]
theorem xQG (nm : LN) (xs : List StepV) : opB nm xs = 1 :: (sttxB nm ++ (numB (xs.length : Nat) ++ xs.flatMap stepB)) := rfl
def lastB (x : StepV) : Bool := decide (6 <= x.kd) && decide (x.kd <= 12)
noncomputable def appJ (n : Nat) (J : JS) (tx : LN) : JS × Nat :=
 if logOf n - J.u < pn tx + 1 then (J, 4)
 else if J.b = true /\ J.l < pn tx + 3 then (J, 3)
 else ({J with f := appF n J.f J.gen J.u tx, s := J.s + pn tx + 3, txs := J.txs ++ [tx], u := J.u + pn tx + 1, l := if J.b then J.l - (pn tx + 3) else J.l}, 0)
noncomputable def ckptJ (n : Nat) (J : JS) (st : LN) : JS × Nat :=
 if areaOf n < pn st then (J, 4)
 else if J.b = true /\ J.l < pn st + 3 then (J, 3)
 else ({J with f := ckptF n J.f (J.gen + 1) st, s := J.s + pn st + 3, gen := J.gen + 1, st := st, txs := [], u := 0, l := if J.b then J.l - (pn st + 3) else J.l}, 0)
noncomputable def noteJ (n : Nat) (J : JS) (st tx : LN) : JS × Nat :=
  if logOf n - J.u < needOf tx.length then (if (ckptJ n J st).2 = 0 then appJ n (ckptJ n J st).1 tx else ckptJ n J st) else appJ n J tx
theorem xQB {J : JS} (h8 : 8 <= n) (hf : u + pn tx + 1 <= logOf n) (hl : ¬ (J.b = true /\ J.l < pn tx + 3)) (h : JFine J.f n gen st txs u) (hne : tx ≠ []) (h256 : ∀ b ∈ tx, b < 256) (hlen : tx.length <= 20000) : (DM.up J.b n J.f J.s J.l).app n gen u tx = (DM.up J.b n (appF n J.f gen u tx) (J.s + pn tx + 3) (if J.b then J.l - (pn tx + 3) else J.l), 0) := by
 cases hb : J.b with
 | false => exact xMY n J.s J.l gen u J.f tx h8 hf
 | true =>
  have h1 : pn tx + 3 <= J.l := Nat.le_of_not_lt fun h => hl ⟨hb, h⟩
  exact (xLF (s := J.s) (l := J.l) h hne h256 hlen hf).1 h1
theorem xOU {J : JS} {st' : LN} (h8 : 8 <= n) (hf : pn st' <= areaOf n) (hl : ¬ (J.b = true /\ J.l < pn st' + 3)) (h : JFine J.f n gen st txs u) (h256 : ∀ b ∈ st', b < 256) (hlen : st'.length <= 20000) (hg : gen + 1 <= 4611686018427387000) : (DM.up J.b n J.f J.s J.l).ckpt n (gen + 1) st' = (DM.up J.b n (ckptF n J.f (gen + 1) st') (J.s + pn st' + 3) (if J.b then J.l - (pn st' + 3) else J.l), 0) := by
 cases hb : J.b with
 | false => exact xBI n J.s J.l (gen + 1) J.f st' h8 hf
 | true =>
  have h1 : pn st' + 3 <= J.l := Nat.le_of_not_lt fun h => hl ⟨hb, h⟩
  exact (xKM (s := J.s) (l := J.l) h h256 hlen hf hg).1 h1
theorem xL8 {b : Bool} {s l m : Nat} {f : Int -> Sec} (h1 : s + m < 4611686018427387904) (h2 : l <= 9223372036854775807) (h3 : m <= 1000000) : Far (DM.up b n f s l) m := ⟨h1, h2, by simpa [DM.up] using h3⟩
def Txa (base : World) (g : Nat) (bs : LN) (P : LN) (w : World) : Prop := ∃ F, Wr w base.heap.size F (some ⟨g, 0, none⟩) bs /\ Below base.heap.size base w /\ ∀ k ∈ P, k < w.heap.size /\ k ∉ F
theorem Txa.to {base : World} {bs' : LN} (h1 : Below base.heap.size base w) (hW : Wr w base.heap.size F (some ⟨g, 0, none⟩) bs) (h2 : ∀ k ∈ P, k < w.heap.size /\ k ∉ F) (h : WTo w base.heap.size F (some ⟨g, 0, none⟩) bs' w') : Txa base g bs' P w' /\ ∀ k ∈ P, w'.heap[k]? = w.heap[k]? := by
 obtain ⟨F', h3, h4, h5⟩ := h
 refine ⟨⟨F', h3, h1.trans (h4.below hW.over h1.size), fun k hk => ⟨kL (h2 k hk).1 h4.size, fun hm => ?_⟩⟩, fun k hk => h4.block k (h2 k hk).1 (h2 k hk).2⟩
 rcases h5 k hm with h6 | h6
 ·exact (h2 k hk).2 h6
 ·have := (h2 k hk).1; omega
theorem Txa.mono {base : World} {P' : LN} (h : Txa base g bs P w) (hP : ∀ k ∈ P', k ∈ P) : Txa base g bs P' w := by
 obtain ⟨F, h1, h2, h3⟩ := h
 exact ⟨F, h1, h2, fun k hk => h3 k (hP k hk)⟩
theorem Txa.alloc {base : World} (h : Txa base g bs P w) (o : Obj) : Txa base g bs (w.heap.size :: P) (w.alloc o) := by
 obtain ⟨F, h1, h2, h3⟩ := h
 refine ⟨F, h1.below (x05 _ _), h2.alloc h2.size _, fun k hk => ?_⟩
 rcases kQ hk with rfl | hk
 ·exact ⟨by simp, fun hm => by have := h1.under _ hm; omega⟩
 ·exact ⟨by have := (h3 k hk).1; simp; omega, (h3 k hk).2⟩
theorem Txa.num {base : World} (h : Txa base g bs P w) (n : Int) (hl : bs.length <= 9000000) :
  Calls prog 56 #[.pointer (some ⟨g, 0, none⟩), .int .i64 n] w fun e w' => e = .returned (.tuple #[]) /\ Txa base g (bs ++ numB n) P w' /\ ∀ k ∈ P, w'.heap[k]? = w.heap[k]? := by
 obtain ⟨F, h1, h2, h3⟩ := h
 exact (x1G w _ F _ bs n h1 hl h2.size).mono fun e w' ⟨e1, e2⟩ => ⟨e1, Txa.to h2 h1 h3 e2⟩
theorem Txa.byte {base : World} (h : Txa base g bs P w) (b : Nat) (hb : b < 256) (hl : bs.length <= 9000000) :
  Calls prog 159 #[.pointer (some ⟨g, 0, none⟩), .int .u8 b] w fun e w' => e = .returned (.tuple #[]) /\ Txa base g (bs ++ [b]) P w' /\ ∀ k ∈ P, w'.heap[k]? = w.heap[k]? := by
 obtain ⟨F, h1, h2, h3⟩ := h
 exact (x7A w _ F _ bs b h1 hl h2.size hb).mono fun e w' ⟨e1, e2⟩ => ⟨e1, Txa.to h2 h1 h3 e2⟩
theorem Txa.text {base : World} (h : Txa base g bs P w) (nm : LN) (hs : Small nm) (hl : bs.length + nm.length <= 8000000) :
  Calls prog 102 #[.pointer (some ⟨g, 0, none⟩), .string (strOf nm)] w fun e w' => e = .returned (.tuple #[]) /\ Txa base g (bs ++ sttxB nm) P w' /\ ∀ k ∈ P, w'.heap[k]? = w.heap[k]? := by
 obtain ⟨F, h1, h2, h3⟩ := h
 exact (x7J w _ F _ bs nm h1 hs hl h2.size).mono fun e w' ⟨e1, e2⟩ => ⟨e1, Txa.to h2 h1 h3 e2⟩
theorem Txa.bytes {base : World} {D : OA} (h : Txa base g bs P w) (dt : LN) (hd : Bytes w B D dt.length dt) (hB : B <= base.heap.size) (hl : bs.length + dt.length <= 8000000) :
  Calls prog 103 #[.pointer (some ⟨g, 0, none⟩), .slice D dt.length c] w fun e w' => e = .returned (.tuple #[]) /\ Txa base g (bs ++ sttxB dt) P w' /\ ∀ k ∈ P, w'.heap[k]? = w.heap[k]? := by
 obtain ⟨F, h1, h2, h3⟩ := h
 refine (x5J w _ F _ bs dt B D dt.length c h1 hd (fun a ha h0 hm => ?_) hl h2.size).mono fun e w' ⟨e1, e2⟩ => ⟨e1, Txa.to h2 h1 h3 e2⟩
 have h4 := h1.over _ hm
 obtain ⟨a', e', h5, _⟩ := hd.1.2 h0
 rw [ha] at e'
 injection e' with e'
 subst e'
 omega
def chC (k : Nat) (nm : LN) (As : OA) (n cs : Nat) (cl : Int) : Array Value := #[.int .u8 k, .string (strOf nm), .slice As n cs, .int .i64 cl]
theorem x64 {α : Type} {l : List α} {a : α} (h : l[k]? = some a) : l.take (k + 1) = l.take k ++ [a] := by rw [take_add_one, h]; rfl
def partT (nm : LN) (xs : List StepV) (k : Nat) : LN := 1 :: (sttxB nm ++ (numB (xs.length : Nat) ++ (xs.take k).flatMap stepB))
theorem xKB (nm : LN) (xs : List StepV) : partT nm xs xs.length = opB nm xs := by unfold partT opB; rw [take_length]
theorem xHI {x : StepV} (h : xs[k]? = some x) : partT nm xs (k + 1) = partT nm xs k ++ numB x.kd ++ numB x.at_ ++ numB x.ln ++ sttxB x.nm ++ sttxB x.dt := by
 unfold partT
 rw [x64 h, flatMap_append]
 simp [stepB, append_assoc]
theorem xN9 (nm : LN) (xs : List StepV) (k : Nat) : (partT nm xs k).length <= (opB nm xs).length := by
 have h : (opB nm xs) = partT nm xs k ++ (xs.drop k).flatMap stepB := by
  unfold opB partT
  conv => lhs; rw [<- take_append_drop k xs, flatMap_append]
  simp [append_assoc]
 rw [h, kN]
 omega
theorem xG6 {cs : Nat} (nm : LN) (hsm : Small nm) (hnm : nm.length <= 1000000) (hl : StepsR w B As l) (hB : B <= w.heap.size) (hll : l.length <= 1000000) (hlen : (opB nm (l.map SV.x)).length <= 3000000) :
  Calls prog 109 #[.agg (chC 1 nm As l.length cs 0)] w fun e w' => ∃ v, e = .returned v /\ Own w' w.heap.size v (opB nm (l.map SV.x)).length (opB nm (l.map SV.x)) /\ Below w.heap.size w w' := by
 obtain ⟨w1, hw1⟩ := kX (w.alloc (.cells (chC 1 nm As l.length cs 0) 128))
 have hb1 : Below w.heap.size w w1 := by rw [hw1]; exact x05 _ _
 have K1 : Blk w1 w.heap.size 128 (chC 1 nm As l.length cs 0) := by rw [hw1]; exact kW _ _ _
 obtain ⟨w2, hw2⟩ := kX (w1.alloc (.cells #[.slice none 0 0] 117))
 obtain ⟨g, hg⟩ := kX w1.heap.size
 have hb2 : Below w1.heap.size w1 w2 := by rw [hw2]; exact x05 _ _
 have K2 : Blk w2 g 117 #[.slice none 0 0] := by rw [hw2, hg]; exact kW _ _ _
 have hT2 : Txa w1 g [] [] w2 := ⟨[g], .inr ⟨g, rfl, .slice none 0 0, by simp [rowOf, Value.ownBlock], K2, ⟨rfl, .inl ⟨rfl, rfl⟩⟩, by omega, fun b hb => by cases hb⟩, hb2, fun k hk => by cases hk⟩
 have HC : Hid (∀ w', Below w1.heap.size w1 w' -> w'.cell? ⟨w.heap.size, 0, none⟩ = some (.int .u8 1) /\ w'.cell? ⟨w.heap.size, 1, none⟩ = some (.string (strOf nm)) /\ w'.cell? ⟨w.heap.size, 2, none⟩ = some (.slice As l.length cs)) := kH fun w' hb => by
  have hk := K1.of (hb.block _ K1.lt)
  exact ⟨hk.cell 0, hk.cell 1, hk.cell 2⟩
 have HW1 := kH hw1
 have HW2 := kH hw2
 have HG := kH hg
 have HB1 := kH hb1
 have HB2 := kH hb2
 have HL := kH hl
 have HLEN := kH hlen
 have hnl : nm.length + 17 <= 3000000 := by rw [x83] at hlen; omega
 have HT := kH hT2
 obtain ⟨c0, c1, c2⟩ := HC.out w2 hb2
 clear hw1 hb1 K1 hw2 hg hb2 K2 hT2 hl hlen
 go_enter func109, ntmps109
 go_wp2_with (first | rw [<- HW1.out] | rw [<- HW2.out, <- HG.out])
 refine (HT.out.byte 1 (by omega) (by simp)).mono ?_
 rintro e w3 ⟨rfl, ht3, -⟩
 obtain ⟨F3, x1, x2, x3⟩ := id ht3
 obtain ⟨d0, d1, d2⟩ := HC.out w3 x2
 have HT3 := kH ht3
 clear ht3 x1 x2 x3
 go_wp2_with fail
 refine (HT3.out.text nm hsm (by simp; omega)).mono ?_
 rintro e w4 ⟨rfl, ht4, -⟩
 obtain ⟨F4, x1, x2, x3⟩ := id ht4
 obtain ⟨e0, e1, e2⟩ := HC.out w4 x2
 have HT4 := kH ht4
 clear ht4 x1 x2 x3
 go_wp2_with fail
 refine (HT4.out.num (l.length : Nat) (by simp [x1F]; omega)).mono ?_
 rintro e w5 ⟨rfl, ht5, -⟩
 obtain ⟨F5, x1, x2, x3⟩ := id ht5
 obtain ⟨f0, f1, f2⟩ := HC.out w5 x2
 have ht5' : Txa w1 g (partT nm (l.map SV.x) 0) [] w5 := by
  unfold partT
  simp only [take_zero, flatMap_nil, append_nil, length_map]
  simpa [append_assoc] using ht5
 have HT5 := kH ht5'
 clear ht5 ht5' x1 x2 x3 HT4 HT3 c0 c1 c2 d0 d1 d2 e0 e1 e2
 go_wp2
 go_loopw [33] (fun iv wr => ∃ k : Nat, k <= l.length /\ iv = .int .i64 k /\ Txa w1 g (partT nm (l.map SV.x) k) [] wr) (fun iv _ => l.length - (intS iv).toNat)
 case atStart => exact ⟨0, by omega, rfl, HT5.out⟩
 case round =>
  obtain ⟨k, hk, rfl, hwt⟩ := hrel
  obtain ⟨wq, hwq⟩ := kX wr
  subst hwq
  have hwk := wK k (by omega)
  have hbel : Below w.heap.size w wq := by
   obtain ⟨F, x1, x2, x3⟩ := id hwt
   exact HB1.out.trans (x2.mono HB1.out.size)
  by_cases hlt : k < l.length
  ·obtain ⟨s, hs⟩ : ∃ s, l[k]? = some s := ⟨_, List.getElem?_eq_getElem hlt⟩
   obtain ⟨ad, rfl, hab, hc⟩ := (HL.out.since hbel).get hs
   have hx := HL.out.els s (mem_of_getElem? hs)
   have hst := xHI (nm := nm) (xs := l.map SV.x) (k := k) (x := s.x) (by simp [hs])
   have hle := xN9 nm (l.map SV.x) (k + 1)
   have hL := HLEN.out
   rw [hst] at hle
   simp only [kN, x04, x1F] at hle
   have HX := kH hx
   have HST := kH hst
   have HTA := kH (hwt.alloc (.cells #[.int .i64 s.x.kd, .int .i64 s.x.at_, .int .i64 s.x.ln, .string (strOf s.x.nm), .slice s.D s.x.dt.length s.c] 52))
   have KA := kW wq 52 #[.int .i64 s.x.kd, .int .i64 s.x.at_, .int .i64 s.x.ln, .string (strOf s.x.nm), .slice s.D s.x.dt.length s.c]
   have HKA := kH KA
   have HBE := kH hbel
   obtain ⟨ptl, hptl⟩ := kX ((partT nm (l.map SV.x) k).length)
   rw [<- hptl] at hle
   obtain ⟨P, hP⟩ := kX (partT nm (l.map SV.x) k)
   rw [<- hP] at HTA HST hptl
   clear hs hx hst hwt KA hbel
   go_wp2_with (have _h := hc; refine x0S rfl (.tmp 35) rfl _ rfl s hc ?_; clear _h hc)
   refine (HTA.out.num s.x.kd (by omega)).mono ?_
   rintro e wa ⟨rfl, ta, ka⟩
   have Ka := HKA.out.of (ka _ (by simp))
   have a1 : wa.cell? ⟨wq.heap.size, 1, none⟩ = some (.int .i64 s.x.at_) := Ka.cell 1
   have HTa := kH ta
   have HKa := kH Ka
   clear ta ka Ka
   go_wp2_with fail
   refine (HTa.out.num s.x.at_ (by simp [x04]; omega)).mono ?_
   rintro e wb ⟨rfl, ta, ka⟩
   have Ka := HKa.out.of (ka _ (by simp))
   have a2 : wb.cell? ⟨wq.heap.size, 2, none⟩ = some (.int .i64 s.x.ln) := Ka.cell 2
   have HTb := kH ta
   have HKb := kH Ka
   clear ta ka Ka HTa HKa a1
   go_wp2_with fail
   refine (HTb.out.num s.x.ln (by simp [x04]; omega)).mono ?_
   rintro e wc ⟨rfl, ta, ka⟩
   have Ka := HKb.out.of (ka _ (by simp))
   have a3 : wc.cell? ⟨wq.heap.size, 3, none⟩ = some (.string (strOf s.x.nm)) := Ka.cell 3
   have HTc := kH ta
   have HKc := kH Ka
   clear ta ka Ka HTb HKb a2
   go_wp2_with fail
   refine (HTc.out.text s.x.nm HX.out.nm (by simp [x04]; omega)).mono ?_
   rintro e wd ⟨rfl, ta, ka⟩
   have Ka := HKc.out.of (ka _ (by simp))
   have a4 : wd.cell? ⟨wq.heap.size, 4, none⟩ = some (.slice s.D s.x.dt.length s.c) := Ka.cell 4
   have hbd : Below w.heap.size w wd := by
    obtain ⟨F, x1, x2, x3⟩ := id ta
    exact HB1.out.trans (x2.mono HB1.out.size)
   have HBY := kH ((HX.out.since hbd).dat)
   have HTd := kH ta
   clear ta ka Ka HTc HKc a3 hbd
   go_wp2_with fail
   refine (HTd.out.bytes s.x.dt HBY.out (kT hB HB1.out.size) (by simp [x04, x1F]; omega)).mono ?_
   rintro e we ⟨rfl, ta, -⟩
   rw [<- HST.out] at ta
   have HTe := kH (ta.mono (P' := []) (fun k hk => by cases hk))
   clear ta HTd HBY a4
   go_wp2
   go_roundw
   case rel => exact ⟨k + 1, by omega, by go_num, HTe.out⟩
   case measure => simp [intS]; omega
  ·obtain rfl : k = l.length := by omega
   have hall := xKB nm (l.map SV.x)
   rw [length_map] at hall
   rw [hall] at hwt
   obtain ⟨F, x1, x2, x3⟩ := id hwt
   have HO := kH (x58 wq w1.heap.size F (some ⟨g, 0, none⟩) _ x1 (by have := HLEN.out; omega))
   have HBQ := kH hbel
   clear hwt x1 x2 x3 hbel hall
   go_wp2_with fail
   refine HO.out.mono ?_
   rintro e w6 ⟨v, rfl, h6, b6⟩
   have HF := kH (kA (h6.weaken HBQ.out.size) (HBQ.out.trans (b6.mono HBQ.out.size)))
   clear h6 b6
   go_wp2
   go_ret
   exact ⟨v, rfl, HF.out.1, HF.out.2⟩
theorem xPG (cl : Int) :
  Calls prog 109 #[.agg (chC 2 [] none 0 0 cl)] w fun e w' => ∃ v, e = .returned v /\ Own w' w.heap.size v (blB cl).length (blB cl) /\ Below w.heap.size w w' := by
 obtain ⟨w1, hw1⟩ := kX (w.alloc (.cells (chC 2 [] none 0 0 cl) 128))
 have hb1 : Below w.heap.size w w1 := by rw [hw1]; exact x05 _ _
 have K1 : Blk w1 w.heap.size 128 (chC 2 [] none 0 0 cl) := by rw [hw1]; exact kW _ _ _
 obtain ⟨w2, hw2⟩ := kX (w1.alloc (.cells #[.slice none 0 0] 117))
 obtain ⟨g, hg⟩ := kX w1.heap.size
 have hb2 : Below w1.heap.size w1 w2 := by rw [hw2]; exact x05 _ _
 have K2 : Blk w2 g 117 #[.slice none 0 0] := by rw [hw2, hg]; exact kW _ _ _
 have hT2 : Txa w1 g [] [] w2 := ⟨[g], .inr ⟨g, rfl, .slice none 0 0, by simp [rowOf, Value.ownBlock], K2, ⟨rfl, .inl ⟨rfl, rfl⟩⟩, by omega, fun b hb => by cases hb⟩, hb2, fun k hk => by cases hk⟩
 have HC : Hid (∀ w', Below w1.heap.size w1 w' -> w'.cell? ⟨w.heap.size, 0, none⟩ = some (.int .u8 2) /\ w'.cell? ⟨w.heap.size, 3, none⟩ = some (.int .i64 cl)) := kH fun w' hb => by
  have hk := K1.of (hb.block _ K1.lt)
  exact ⟨hk.cell 0, hk.cell 3⟩
 have HW1 := kH hw1
 have HW2 := kH hw2
 have HG := kH hg
 have HB1 := kH hb1
 have HT := kH hT2
 obtain ⟨c0, c1⟩ := HC.out w2 hb2
 clear hw1 hb1 K1 hw2 hg hb2 K2 hT2
 go_enter func109, ntmps109
 go_wp2_with (first | rw [<- HW1.out] | rw [<- HW2.out, <- HG.out])
 refine (HT.out.byte 2 (by omega) (by simp)).mono ?_
 rintro e w3 ⟨rfl, ht3, -⟩
 obtain ⟨F3, x1, x2, x3⟩ := id ht3
 obtain ⟨d0, d1⟩ := HC.out w3 x2
 have HT3 := kH ht3
 clear ht3 x1 x2 x3 c0 c1
 go_wp2_with fail
 refine (HT3.out.num cl (by simp)).mono ?_
 rintro e w4 ⟨rfl, ht4, -⟩
 obtain ⟨F4, x1, x2, x3⟩ := id ht4
 have HO := kH (x58 w4 w1.heap.size F4 (some ⟨g, 0, none⟩) _ x1 (by simp [x04]))
 have HBQ := kH (HB1.out.trans (x2.mono HB1.out.size))
 clear ht4 x1 x2 x3
 go_wp2_with fail
 refine HO.out.mono ?_
 rintro e w6 ⟨v, rfl, h6, b6⟩
 have h6' : Own w6 w4.heap.size v (blB cl).length (blB cl) := h6
 have HF := kH (kA (h6'.weaken HBQ.out.size) (HBQ.out.trans (b6.mono HBQ.out.size)))
 clear h6 h6' b6
 go_wp2
 go_ret
 exact ⟨v, rfl, HF.out.1, HF.out.2⟩
theorem xDA {cs : Nat} (nm : LN) (hl : StepsR w B As l) (hB : B <= w.heap.size) (hll : l.length <= 1000000) :
  Calls prog 106 #[.agg (chC 1 nm As l.length cs 0)] w fun e w' => e = .returned (.bool ((l.map SV.x).any lastB)) /\ Below w.heap.size w w' := by
 obtain ⟨w1, hw1⟩ := kX (w.alloc (.cells (chC 1 nm As l.length cs 0) 128))
 have hb1 : Below w.heap.size w w1 := by rw [hw1]; exact x05 _ _
 have K1 : Blk w1 w.heap.size 128 (chC 1 nm As l.length cs 0) := by rw [hw1]; exact kW _ _ _
 have c2 : w1.cell? ⟨w.heap.size, 2, none⟩ = some (.slice As l.length cs) := K1.cell 2
 have HC : Hid (∀ w', Below w1.heap.size w1 w' -> w'.cell? ⟨w.heap.size, 0, none⟩ = some (.int .u8 1)) := kH fun w' hb => (K1.of (hb.block _ K1.lt)).cell 0
 have HW1 := kH hw1
 have HB1 := kH hb1
 have HL := kH hl
 clear hw1 hb1 K1 hl
 go_enter func106, ntmps106
 go_wp2_with (first | rw [<- HW1.out])
 go_loopw [8] (fun iv wr => ∃ k : Nat, k <= l.length /\ iv = .int .i64 k /\ Below w1.heap.size w1 wr /\ ((l.map SV.x).take k).any lastB = false) (fun iv _ => l.length - (intS iv).toNat)
 case atStart => exact ⟨0, by omega, rfl, kB _ _, rfl⟩
 case round =>
  obtain ⟨k, hk, rfl, hwt, hno⟩ := hrel
  obtain ⟨wq, hwq⟩ := kX wr
  subst hwq
  have hwk := wK k (by omega)
  have hbel : Below w.heap.size w wq := HB1.out.trans (hwt.mono HB1.out.size)
  by_cases hlt : k < l.length
  ·obtain ⟨s, hs⟩ : ∃ s, l[k]? = some s := ⟨_, List.getElem?_eq_getElem hlt⟩
   obtain ⟨ad, rfl, hab, hc⟩ := (HL.out.since hbel).get hs
   have hxs : (l.map SV.x)[k]? = some s.x := by simp [hs]
   have htk := x64 hxs
   have HWT := kH (kA hwt (kA hbel (kA hno (kA hxs htk))))
   have hin : lastB s.x = true -> (l.map SV.x).any lastB = true := fun h => List.any_eq_true.2 ⟨s.x, mem_of_getElem? hxs, h⟩
   have HIN := kH hin
   clear hs hwt hbel hno hxs htk hin
   by_cases hlast : lastB s.x = true
   ·have HF := kH (HIN.out hlast)
    have hcs : s.x.kd = 6 ∨ s.x.kd = 7 ∨ s.x.kd = 8 ∨ s.x.kd = 9 ∨ s.x.kd = 10 ∨ s.x.kd = 11 ∨ s.x.kd = 12 := by
     unfold lastB at hlast
     simp at hlast
     omega
    clear hlast HIN
    obtain ⟨kd, hkd⟩ := kX s.x.kd
    rw [<- hkd] at hcs
    rcases hcs with rfl | rfl | rfl | rfl | rfl | rfl | rfl
    all_goals
     go_wp2_with (have _h := hc; refine x0S rfl (.tmp 10) rfl _ rfl s hc ?_; clear _h hc; rw [<- hkd])
     go_ret
     exact ⟨by rw [HF.out]; rfl, HWT.out.2.1.alloc HWT.out.2.1.size _⟩
   ·have hno : lastB s.x = false := by simpa using hlast
    have n6 : (s.x.kd == 6) = false := by unfold lastB at hno; simp at hno ⊢; omega
    have n7 : (s.x.kd == 7) = false := by unfold lastB at hno; simp at hno ⊢; omega
    have n8 : (s.x.kd == 8) = false := by unfold lastB at hno; simp at hno ⊢; omega
    have n9 : (s.x.kd == 9) = false := by unfold lastB at hno; simp at hno ⊢; omega
    have n10 : (s.x.kd == 10) = false := by unfold lastB at hno; simp at hno ⊢; omega
    have n11 : (s.x.kd == 11) = false := by unfold lastB at hno; simp at hno ⊢; omega
    have n12 : (s.x.kd == 12) = false := by unfold lastB at hno; simp at hno ⊢; omega
    have HNO := kH hno
    clear hno hlast HIN
    go_wp2_with (have _h := hc; refine x0S rfl (.tmp 10) rfl _ rfl s hc ?_; clear _h hc)
    go_roundw
    case rel => exact ⟨k + 1, by omega, by go_num, HWT.out.1.alloc HWT.out.1.size _, by rw [HWT.out.2.2.2.2, List.any_append, HWT.out.2.2.1]; simp [HNO.out]⟩
    case measure => simp [intS]; omega
  ·obtain rfl : k = l.length := by omega
   rw [take_of_length_le (by simp)] at hno
   have q0 := HC.out wq hwt
   have HF := kH (kA hno hbel)
   clear hno hbel
   go_wp2
   go_ret
   exact ⟨by rw [HF.out.1]; rfl, HF.out.2⟩
theorem xLK (cl : Int) : Calls prog 106 #[.agg (chC 2 [] none 0 0 cl)] w fun e w' => e = .returned (.bool true) /\ Below w.heap.size w w' := by
 obtain ⟨w1, hw1⟩ := kX (w.alloc (.cells (chC 2 [] none 0 0 cl) 128))
 have hb1 : Below w.heap.size w w1 := by rw [hw1]; exact x05 _ _
 have K1 : Blk w1 w.heap.size 128 (chC 2 [] none 0 0 cl) := by rw [hw1]; exact kW _ _ _
 have c2 : w1.cell? ⟨w.heap.size, 2, none⟩ = some (.slice none 0 0) := K1.cell 2
 have q0 : w1.cell? ⟨w.heap.size, 0, none⟩ = some (.int .u8 2) := K1.cell 0
 have HW1 := kH hw1
 have HB1 := kH hb1
 clear hw1 hb1 K1
 go_enter func106, ntmps106
 go_wp2_with (first | rw [<- HW1.out])
 go_loopw [8] (fun iv wr => iv = .int .i64 0 /\ wr = w1) (fun iv _ => 0)
 case atStart => exact ⟨rfl, rfl⟩
 case round =>
  obtain ⟨rfl, rfl⟩ := hrel
  go_wp2
  go_ret
  exact ⟨rfl, HB1.out⟩
section
def SCopy (w : World) (Z : LN) (M : Mod) (kv : KV) (e : Ending) (w' : World) : Prop := ∃ gs ms gp r c A, e = .returned (.pointer (some ⟨gs, 0, none⟩)) /\ StoreAt w' (ms :: Z) gs ms gp r c A M kv /\ w.heap.size <= gs /\ (∀ k ∈ ms :: foot gp r M.fl, w.heap.size <= k) /\ Below w.heap.size w w'
theorem x9S (h : StoreAt w Z gs ms gp r c A M kv) : Calls prog 55 #[.pointer (some ⟨gs, 0, none⟩)] w (SCopy w Z M kv) := by
 refine (xGT h.st).mono ?_
 rintro e w' ⟨gs', ms', gp', r', c', A', rfl, h1, h2, h3, h4, h5, h6⟩
 refine ⟨gs', ms', gp', r', c', A', rfl, ⟨h1, (h.wide (Z' := ms' :: Z) h6 (fun z hz => ?_)).obs⟩, h2, fun k hk => ?_, h6⟩
 ·rcases kQ hz with rfl | hz
  ·exact .inr h3
  ·exact .inl hz
 ·rcases kQ hk with rfl | hk
  ·exact h3
  ·rcases x1X hk with rfl | ⟨_, rfl⟩
   ·exact h4
   ·exact h5
theorem xDI {n0 cs : Nat} (h : StoreAt w Z gs ms gp r c A M kv) (hZ : ms ∈ Z) (hZl : ∀ z ∈ Z, z < w.heap.size) (hI : Inv n0 M) (hn0 : n0 <= 900000) (nm : LN) (hsm : Small nm) (hnm : nm.length <= 1000000)
 (hl : StepsR w B As l) (hB : B <= w.heap.size) (hll : l.length <= cs) (hl6 : l.length <= 1000000) :
  Calls prog 107 #[.agg (chC 1 nm As l.length cs 0), .pointer (some ⟨gs, 0, none⟩)] w fun e w' => ∃ w1, Below w.heap.size w w1 /\ DoTo w1 Z gs ms gp r c A M nm (l.map SV.x) e w' := by
 obtain ⟨w1, hw1⟩ := kX (w.alloc (.cells (chC 1 nm As l.length cs 0) 128))
 have hb1 : Below w.heap.size w w1 := by rw [hw1]; exact x05 _ _
 have K1 : Blk w1 w.heap.size 128 (chC 1 nm As l.length cs 0) := by rw [hw1]; exact kW _ _ _
 have c0 : w1.cell? ⟨w.heap.size, 0, none⟩ = some (.int .u8 1) := K1.cell 0
 have c1 : w1.cell? ⟨w.heap.size, 1, none⟩ = some (.string (strOf nm)) := K1.cell 1
 have c2 : w1.cell? ⟨w.heap.size, 2, none⟩ = some (.slice As l.length cs) := K1.cell 2
 have HD := kH (xP3 (h.below hb1) hZ (fun z hz => kL (hZl z hz) hb1.size) hI hn0 nm hsm hnm (hl.since hb1) (kT hB hb1.size) hll hl6)
 have HW1 := kH hw1
 have HB1 := kH hb1
 clear hw1 hb1 K1 hl h
 go_enter func107, ntmps107
 go_wp2_with (first | rw [<- HW1.out])
 refine HD.out.mono ?_
 rintro e w2 ⟨hon, M', k, told, v, kv', hr, hst, rfl, ht⟩
 have HF := kH (kA hon (kA hr (kA hst ht)))
 clear hon hr hst ht
 generalize hev : errV k = ev
 have HEV := kH hev
 clear hev
 go_wp2
 go_ret2
 exact ⟨w1, HB1.out, HF.out.1, M', k, told, v, kv', HF.out.2.1, HF.out.2.2.1, by rw [HEV.out]; rfl, HF.out.2.2.2⟩
def blockN (x : Int) : Nat := if isClientB x then 0 else 1
theorem xJY (x : Int) : blockE x = errV (blockN x) := by unfold blockE blockN; split <;> rfl
theorem xQ3 {fl : List Bool} (h : StAt w gs ms gp r c A bl fl kv) (cl : Int) :
  Calls prog 107 #[.agg (chC 2 [] none 0 0 cl), .pointer (some ⟨gs, 0, none⟩)] w fun e w' => ∃ w1, Below w.heap.size w w1 /\ e = .returned (.tuple #[.slice none 0 0, errV (blockN cl)]) /\ StAt w' gs ms gp r c A (blockAt bl cl) fl kv /\ Only [gs] w1 w' := by
 obtain ⟨w1, hw1⟩ := kX (w.alloc (.cells (chC 2 [] none 0 0 cl) 128))
 have hb1 : Below w.heap.size w w1 := by rw [hw1]; exact x05 _ _
 have K1 : Blk w1 w.heap.size 128 (chC 2 [] none 0 0 cl) := by rw [hw1]; exact kW _ _ _
 have c0 : w1.cell? ⟨w.heap.size, 0, none⟩ = some (.int .u8 2) := K1.cell 0
 have c3 : w1.cell? ⟨w.heap.size, 3, none⟩ = some (.int .i64 cl) := K1.cell 3
 have HD := kH (xL1 (h.below hb1) cl)
 have HW1 := kH hw1
 have HB1 := kH hb1
 rw [xJY] at HD
 clear hw1 hb1 K1 h
 generalize hev : errV (blockN cl) = ev at HD
 have HEV := kH hev
 clear hev
 go_enter func107, ntmps107
 go_wp2_with (first | rw [<- HW1.out])
 refine HD.out.mono ?_
 rintro e w2 ⟨rfl, hst, hon⟩
 have HF := kH (kA hst hon)
 clear hst hon
 go_wp2
 go_ret2
 exact ⟨w1, HB1.out, rfl, HF.out.1, HF.out.2⟩
structure JSm (k : Nat) (J : JS) : Prop where
 b : J.b = false
 s : J.s <= 400 * (k + 1)
 gen : J.gen <= k + 1
 txs : J.txs.length <= k
 l : J.l <= 9223372036854775807
theorem JSm.mono {J : JS} (h : JSm k J) (hk : k <= k') : JSm k' J := ⟨h.b, by have := h.s; omega, by have := h.gen; omega, by have := h.txs; omega, h.l⟩
theorem x3C (h : n <= 500) : areaOf n <= 166 /\ logOf n <= 168 := by unfold logOf areaOf; omega
section
variable {w0 w w' : World} {g gj n c k : Nat} {J : JS} {F : LN} {A : OA} {vt : Value} {us : List Value}
def JTo (w0 w : World) (g gj n : Nat) (vt : Value) (F : LN) (J : JS) (w' : World) : Prop := ∃ F' A' c' vt' us', JX w0 w' g gj (DM.up J.b n J.f J.s J.l) n J.gen J.st J.txs J.u F' A' c' vt' us' /\ Only (jf gj vt F) w w' /\ Fresh w (jf gj vt F) (jf gj vt' F') /\ JFine J.f n J.gen J.st J.txs J.u
theorem xEM (h : JX w0 w g gj (DM.up J.b n J.f J.s J.l) n J.gen J.st J.txs J.u F A c vt us) (hfi : JFine J.f n J.gen J.st J.txs J.u) (hsm : JSm k J) (hk : k <= 50000) (hn : n <= 500) (B : OA) (cb : Nat) (tx : LN) (hst : Bytes w w.heap.size B tx.length tx) (hl : tx.length <= 1000000) (hlc : tx.length <= cb) (hcm : cb <= 9223372036854775807) (hne : tx ≠ [])
 (hT : Tab w) (hw0 : 0 < w0.heap.size) (hB : ∀ k ∈ blkOf B, k < w.heap.size /\ k ∉ F) :
  Calls prog 158 #[.pointer (some ⟨gj, 0, none⟩), .slice B tx.length cb] w fun e w' => e = .returned (errV (appJ n J tx).2) /\ JTo w0 w g gj n vt F (appJ n J tx).1 w' := by
 have h1 := hsm.s
 have h2 := hsm.gen
 have h3 := hsm.txs
 have h4 := x3C hn
 have h5 : 0 < tx.length := length_pos_iff.2 hne
 have hpe : pn tx = pnN tx.length := rfl
 unfold appJ
 by_cases hfull : logOf n - J.u < pn tx + 1
 ·rw [if_pos hfull]
  refine (xES h.jb (by omega) hfi.ok.ule B tx.length cb h5 (by omega) (by omega)).mono ?_
  rintro e w' ⟨rfl, hb⟩
  exact ⟨rfl, F, A, c, vt, us, h.below hb, kO hb _, kF _ _, hfi⟩
 ·have hp : pn tx + 1 <= logOf n - J.u := by omega
  have hlen : tx.length <= 20000 := by unfold pn at hp; omega
  have hno : ¬ (J.b = true /\ J.l < pn tx + 3) := by rw [hsm.b]; simp
  have hfit : J.u + pn tx + 1 <= logOf n := by have := hfi.ok.ule; omega
  have e := xQB (J := J) hfi.ok.n8 hfit hno hfi hne hst.2 hlen
  rw [if_neg hfull, if_neg hno]
  refine (h.append (by omega) (by omega) hfi.ok.ule B cb tx hst hlen hlc hcm hne hp hT hw0 hB (xL8 (by omega) hsm.l (by omega)) (by rw [e]) (by omega)).mono ?_
  rintro e' w' ⟨rfl, F', vt', us', hj, ho, hf⟩
  rw [e] at hj
  exact ⟨rfl, F', A, c, vt', us', hj, ho, hf, hfi.app hne hst.2 hfit⟩
theorem xOJ (h : JX w0 w g gj (DM.up J.b n J.f J.s J.l) n J.gen J.st J.txs J.u F A c vt us) (hfi : JFine J.f n J.gen J.st J.txs J.u) (hsm : JSm k J) (hk : k <= 50000) (hn : n <= 500) (B : OA) (cb : Nat) (hst : Bytes w w.heap.size B st.length st) (hl : st.length <= 1000000) (hlc : st.length <= cb) (hcm : cb <= 9223372036854775807)
 (hT : Tab w) (hw0 : 0 < w0.heap.size) (hB : ∀ k ∈ blkOf B, k < w.heap.size /\ k ∉ F) :
  Calls prog 157 #[.pointer (some ⟨gj, 0, none⟩), .slice B st.length cb] w fun e w' => e = .returned (errV (ckptJ n J st).2) /\ JTo w0 w g gj n vt F (ckptJ n J st).1 w' := by
 have h1 := hsm.s
 have h2 := hsm.gen
 have h3 := hsm.txs
 have h4 := x3C hn
 have hpe : pn st = pnN st.length := rfl
 unfold ckptJ
 by_cases hfull : areaOf n < pn st
 ·rw [if_pos hfull]
  refine (x9Q h.jb B st.length cb (by omega) (by omega)).mono ?_
  rintro e w' ⟨rfl, hb⟩
  exact ⟨rfl, F, A, c, vt, us, h.below hb, kO hb _, kF _ _, hfi⟩
 ·have hp : pn st <= areaOf n := by omega
  have hlen : st.length <= 20000 := by unfold pn at hp; omega
  have hno : ¬ (J.b = true /\ J.l < pn st + 3) := by rw [hsm.b]; simp
  have e := xOU (J := J) hfi.ok.n8 hp hno hfi hst.2 hlen (by omega)
  rw [if_neg hfull, if_neg hno]
  refine (h.checkpoint (by omega) (by omega) B cb hst hlen hlc hcm hp hT hw0 hB (xL8 (by omega) hsm.l (by omega)) (by rw [e])).mono ?_
  rintro e' w' ⟨rfl, F', A', c', hj, ho, hf⟩
  rw [e] at hj
  exact ⟨rfl, F', A', c', _, _, hj, ho, hf, hfi.ckpt hp hst.2 hlen (by omega)⟩
theorem xQ2 (hn : n <= 500) (h : JSm k J) : JSm (k + 1) (appJ n J tx).1 := by
 have h4 := x3C hn
 have h1 := h.s
 have h2 := h.gen
 have h3 := h.txs
 unfold appJ
 split
 ·exact h.mono (by omega)
 ·split
  ·exact h.mono (by omega)
  ·exact ⟨h.b, by simp only; omega, by simp only; omega, by simp only [kN, length_singleton]; omega, by simp only [h.b]; exact h.l⟩
theorem xO7 (hn : n <= 500) (h : JSm k J) : (ckptJ n J st).1.b = false /\ (ckptJ n J st).1.s <= J.s + 169 /\ (ckptJ n J st).1.gen <= J.gen + 1 /\ (ckptJ n J st).1.txs.length <= J.txs.length /\ (ckptJ n J st).1.l <= 9223372036854775807 := by
 have h4 := x3C hn
 unfold ckptJ
 split
 ·exact ⟨h.b, Nat.le_add_right _ _, Nat.le_add_right _ _, kR _, h.l⟩
 ·split
  ·exact ⟨h.b, Nat.le_add_right _ _, Nat.le_add_right _ _, kR _, h.l⟩
  ·exact ⟨h.b, by simp only; omega, kR _, by simp, by simp only [h.b]; exact h.l⟩
theorem xG3 (hn : n <= 500) (h : JSm k J) : JSm (k + 1) (noteJ n J st tx).1 := by
 have h4 := x3C hn
 obtain ⟨a1, a2, a3, a4, a5⟩ := xO7 (st := st) hn h
 have h1 := h.s
 have h2 := h.gen
 have h3 := h.txs
 unfold noteJ
 split
 ·split
  ·generalize (ckptJ n J st).1 = K at *
   unfold appJ
   split
   ·exact ⟨a1, by simp only; omega, by simp only; omega, by simp only; omega, a5⟩
   ·split
    ·exact ⟨a1, by simp only; omega, by simp only; omega, by simp only; omega, a5⟩
    ·exact ⟨a1, by simp only; omega, by simp only; omega, by simp only [kN, length_singleton]; omega, by simp only [a1]; exact a5⟩
  ·exact ⟨a1, by omega, by omega, by omega, a5⟩
 ·exact xQ2 hn h
end
end
section
def poolC (gj gs : Nat) (b : Bool) : Array Value := #[.pointer (some ⟨gj, 0, none⟩), .pointer (some ⟨gs, 0, none⟩), .bool b]
theorem JTo.then_ {vt1 : Value} {F1 : LN} {J' : JS} (ho : Only (jf gj vt F) w w1) (hf : Fresh w (jf gj vt F) (jf gj vt1 F1)) (h : JTo w0 w1 g gj n vt1 F1 J' w') : JTo w0 w g gj n vt F J' w' := by
 obtain ⟨F', A', c', vt', us', h1, h2, h3, h4⟩ := h
 exact ⟨F', A', c', vt', us', h1, ho.trans h2 hf, hf.trans h3 ho.size, h4⟩
theorem JTo.after {J' : JS} (hb : Below w.heap.size w w1) (h : JTo w0 w1 g gj n vt F J' w') : JTo w0 w g gj n vt F J' w' := JTo.then_ (kO hb _) (kF _ _) h
theorem x1J {cs : Array Value} (h : Blk w g t cs) (hG : ∀ k ∈ G, Odd w t k) : g ∉ G := fun hm => hG g hm cs h
theorem x4I (h : Own w base (.slice A n c) n bs) (hn : 0 < n) : ∀ k ∈ blkOf A, base <= k /\ k < w.heap.size := fun k hk => by
 rcases h.2 with ⟨e, h0⟩ | ⟨g, cap, cur, e, hb, hh, _⟩
 ·rw [h0] at hn; exact absurd hn (by simp)
 ·injection e with e1 e2 e3
  subst e1
  simp [blkOf] at hk
  subst hk
  exact ⟨hb, (Array.getElem?_eq_some_iff.1 hh).1⟩
theorem x5K (h : Own w base (.slice A n c) n bs) : n <= c /\ c <= 9223372036854775807 := by
 rcases h.2 with ⟨e, h0⟩ | ⟨g, cap, cur, e, hb, hh, h1, h2, _⟩
 ·injection e with e1 e2 e3
  omega
 ·injection e with e1 e2 e3
  subst e3
  exact ⟨h1, kT h2 (by decide)⟩
section
variable {w0 w w' : World} {gq n k m : Nat} {x : PX} {J : JS} {M : Mod}
theorem xCU (h : JSo w0 w n x J M) (hp : Blk w gq 113 (poolC x.gj x.gs false)) (hfi : JFine J.f n J.gen J.st J.txs J.u) (hsm : JSm k J) (hk : k <= 40000) (hn : n <= 500) (hI : Inv m M) (hm : m <= 1000000) (hput : (putM M).length <= 1000000)
 (B : OA) (cb : Nat) (tx : LN) (hst : Bytes w w.heap.size B tx.length tx) (hl : tx.length <= 1000000) (hlc : tx.length <= cb) (hcm : cb <= 9223372036854775807) (hne : tx ≠ [])
 (hT : Tab w0) (hw0 : 0 < w0.heap.size) (hB : ∀ k ∈ blkOf B, k < w.heap.size /\ k ∉ jf x.gj x.vt x.F) :
  Calls prog 108 #[.pointer (some ⟨gq, 0, none⟩), .slice B tx.length cb] w fun e w' => e = .returned (errV (noteJ n J (putM M) tx).2) /\ JTo w0 w x.g x.gj n x.vt x.F (noteJ n J (putM M) tx).1 w' := by
 have hul : logOf n - J.u < 1000000 := by have := x3C hn; omega
 have hnl : needOf tx.length <= 1000000 := by
  have hpos : 0 < tx.length := length_pos_iff.2 hne
  unfold needOf
  rw [if_neg (by omega)]
  show pnN tx.length + 1 <= _
  unfold pnN
  omega
 have HTAB : Hid (∀ w', Below w0.heap.size w0 w' -> Tab w') := kH fun w' hb => x0O hT hb hw0
 have HBF : Hid (∀ k ∈ blkOf B, k < w.heap.size /\ k ∉ x.F) := kH fun k hk => ⟨(hB k hk).1, fun hF => (hB k hk).2 (by unfold jf; simp [hF])⟩
 have HB0 := kH hB
 have HJS := kH h
 have HPB := kH hp
 have HFI := kH hfi
 have HSM := kH hsm
 have HST := kH hst
 have HI := kH (kA hI hput)
 have hqO : gq ∉ jf x.gj x.vt x.F := x1J hp (h.jx.odd (by decide) (by decide) (by decide) (by decide))
 have HQO := kH hqO
 clear h hp hfi hsm hst hT hB hI hput hqO
 go_enter func108, ntmps108
 go_upto_region 1 with (fail)
 have hS0 : Blk w.drew gq 113 (poolC x.gj x.gs false) /\ Below w.heap.size w w.drew := ⟨HPB.out.drew, x08 (kB _ _) 1⟩
 refine x09 (fun w' => Blk w' gq 113 (poolC x.gj x.gs false) /\ Below w.heap.size w w') 99 (by kernel_rfl) ?_
 refine tV 0 (.slice B tx.length cb) rfl (fun w hw => by kernel_rfl) hS0 ?_
 refine tV 1 (.int .i64 (tx.length : Nat)) rfl (fun w hw => by go_simp) hS0 ?_
 refine tV 3 (.pointer (some ⟨gq, 0, none⟩)) rfl (fun w hw => by kernel_rfl) hS0 ?_
 refine tV 4 (.pointer (some ⟨gq, 0, none⟩)) rfl (fun w hw => by kernel_rfl) hS0 ?_
 refine tV 5 (.pointer (some ⟨gq, 0, none⟩)) rfl (fun w hw => by go_simp) hS0 ?_
 refine tV 6 (.pointer (some ⟨x.gj, 0, none⟩)) rfl (fun w hw => by have q : w.cell? ⟨gq, 0, none⟩ = some (.pointer (some ⟨x.gj, 0, none⟩)) := hw.1.cell 0; go_simp) hS0 ?_
 refine tO 2 ?_
 refine x03 (by kernel_rfl) (x9E tx.length w.drew (by omega)) ?_
 rintro e w1 ⟨rfl, hw1⟩
 subst hw1
 refine ⟨_, rfl, hS0, ?_⟩
 simp only [nH, pu, nB, nC, nD]
 refine tO 7 ?_
 refine x03 (by kernel_rfl) (x6U (HJS.out.jx.below hS0.2).jb (by omega) HFI.out.ok.ule) ?_
 rintro e w1 ⟨rfl, hb1⟩
 have hb01 : Below w.heap.size w w1 := hS0.2.trans (hb1.mono hS0.2.size)
 have hp1 := HPB.out.below hb01 HPB.out.lt
 refine ⟨_, rfl, ⟨hp1, hb01⟩, ?_⟩
 simp only [nH, pu, nB, nC, nD]
 have HB01 := kH hb01
 have HP1 := kH hp1
 clear hS0 hb1 hb01 hp1
 by_cases hroom : logOf n - J.u < needOf tx.length
 ·have hd : decide (((logOf n - J.u : Nat) : Int) < (needOf tx.length : Int)) = true := by simp; omega
  have HR := kH hroom
  clear hroom
  refine tO 8 ?_
  refine x0A (v := .bool true) (w' := w1) (by go_simp; exact HR.out) ⟨⟨HP1.out, HB01.out⟩, ?_⟩
  simp only [nH, pu, nB, nC, nD]
  refine tE ?_
  clear hd
  go_upto_region 2 with (fail)
  have hS1 : Blk w1.drew gq 113 (poolC x.gj x.gs false) := HP1.out.drew
  have hb1d : Below w.heap.size w w1.drew := HB01.out.trans (x08 (kB _ _) 1 |>.mono HB01.out.size)
  refine x09 (fun w' => Blk w' gq 113 (poolC x.gj x.gs false)) 10 (by kernel_rfl) ?_
  refine tU 0 (.pointer (some ⟨gq, 0, none⟩)) rfl (fun w hw => by kernel_rfl) hS1 ?_
  refine tU 1 (.pointer (some ⟨gq, 0, none⟩)) rfl (fun w hw => by kernel_rfl) hS1 ?_
  refine tU 2 (.pointer (some ⟨gq, 0, none⟩)) rfl (fun w hw => by go_simp) hS1 ?_
  refine tU 3 (.pointer (some ⟨x.gj, 0, none⟩)) rfl (fun w hw => by have q : w.cell? ⟨gq, 0, none⟩ = some (.pointer (some ⟨x.gj, 0, none⟩)) := hw.cell 0; go_simp) hS1 ?_
  refine tU 4 (.pointer (some ⟨gq, 0, none⟩)) rfl (fun w hw => by kernel_rfl) hS1 ?_
  refine tU 5 (.pointer (some ⟨gq, 0, none⟩)) rfl (fun w hw => by kernel_rfl) hS1 ?_
  refine tU 6 (.pointer (some ⟨gq, 1, none⟩)) rfl (fun w hw => by go_simp) hS1 ?_
  refine tU 7 (.pointer (some ⟨x.gs, 0, none⟩)) rfl (fun w hw => by have q : w.cell? ⟨gq, 1, none⟩ = some (.pointer (some ⟨x.gs, 0, none⟩)) := hw.cell 1; go_simp) hS1 ?_
  refine tO 8 ?_
  refine x03 (by kernel_rfl) (xBM (HJS.out.so.below hb1d) HI.out.1 hm (by have := HI.out.2; omega)) ?_
  rintro e w2 ⟨v2, rfl, ho2, hb2, hsmall⟩
  have hb02 : Below w.heap.size w w2 := hb1d.trans (hb2.mono hb1d.size)
  have hp2 : Blk w2 gq 113 (poolC x.gj x.gs false) := HPB.out.below hb02 HPB.out.lt
  refine ⟨_, rfl, hp2, ?_⟩
  obtain ⟨A2, c2, rfl⟩ := x0H ho2
  have hpl : 0 < (putM M).length := by unfold putM; simp [x04]; omega
  have hsz := hb1d.size
  obtain ⟨hc2, hcm2⟩ := x5K ho2
  have hcj := xOJ (HJS.out.jx.below hb02) HFI.out HSM.out (by omega) hn A2 c2 (st := putM M) (ho2.bytes hsmall) HI.out.2 hc2 hcm2 (HTAB.out w2 (HJS.out.jx.bel.trans (hb02.mono HJS.out.jx.bel.size))) hw0 (fun q hq => by
   have h1 := x4I ho2 hpl q hq
   refine ⟨h1.2, fun hF => ?_⟩
   have := HJS.out.jx.under q (by unfold jf; simp [hF])
   omega)
  simp only [nH, pu, nB, nC, nD]
  refine tO 9 ?_
  refine x03 (by kernel_rfl) hcj ?_
  rintro e w3 ⟨rfl, F3, A3, c3, vt3, us3, hj3, hon3, hfr3, hfi3⟩
  have hp3 : Blk w3 gq 113 (poolC x.gj x.gs false) := hp2.of (hon3.block _ hp2.lt HQO.out)
  refine ⟨_, rfl, hp3, ?_⟩
  simp only [nH, pu, nB, nC, nD]
  refine tZ ?_
  refine x0A (v := errV (ckptJ n J (putM M)).2) (w' := w3) (by kernel_rfl) ?_
  refine NoPanic.normal ?_
  simp only [nH, pu, nB, nC, nD]
  have hon03 : Only (jf x.gj x.vt x.F) w w3 := (kO hb02 _).trans hon3 (kF _ _)
  have hfr03 : Fresh w (jf x.gj x.vt x.F) (jf x.gj vt3 F3) := fun q hq => by
   rcases hfr3 q hq with h1 | h1
   ·exact .inl h1
   ·exact .inr (kT hb02.size h1)
  have HB3 : Hid (Bytes w3 w3.heap.size B tx.length tx /\ ∀ q ∈ blkOf B, q < w3.heap.size /\ q ∉ F3) := kH ⟨(HST.out.only hon03 (fun a ha _ hm => by
   subst ha
   exact (HB0.out _ (by simp [blkOf])).2 hm)).more hon03.size, fun q hq => ⟨kL (HBF.out q hq).1 hon03.size, fun hm => by
    rcases hfr03 q (by unfold jf; simp [hm]) with h1 | h1
    ·exact (HB0.out q hq).2 h1
    ·have := (HBF.out q hq).1; omega⟩⟩
  have HJ3 := kH hj3
  have HP3 := kH hp3
  have HF3 := kH (kA hfi3 (kA hon03 hfr03))
  have hnj : noteJ n J (putM M) tx = if (ckptJ n J (putM M)).2 = 0 then appJ n (ckptJ n J (putM M)).1 tx else ckptJ n J (putM M) := by unfold noteJ; rw [if_pos HR.out]
  have hcs := xO7 (st := putM M) hn HSM.out
  have hs3 : JSm (k + 1) (ckptJ n J (putM M)).1 := ⟨hcs.1, by have := hcs.2.1; have := HSM.out.s; omega, by have := hcs.2.2.1; have := HSM.out.gen; omega, by have := hcs.2.2.2.1; have := HSM.out.txs; omega, hcs.2.2.2.2⟩
  have HS3 := kH hs3
  have HNJ := kH hnj
  clear hS1 hb1d ho2 hb2 hb02 hp2 hsmall hpl hc2 hcm2 hcj hj3 hon3 hfr3 hfi3 hp3 hon03 hfr03 hnj hcs hs3
  generalize hcj : ckptJ n J (putM M) = CJ at *
  obtain ⟨J3, e3⟩ := CJ
  dsimp only at HJ3 HF3 HS3 HNJ ⊢
  by_cases he : e3 = 0
  ·subst he
   have hq3 : w3.cell? ⟨gq, 0, none⟩ = some (.pointer (some ⟨x.gj, 0, none⟩)) := HP3.out.cell 0
   have HA := kH (xEM HJ3.out HF3.out.1 HS3.out (by omega) hn B cb tx HB3.out.1 hl hlc hcm hne (HTAB.out w3 HJ3.out.bel) hw0 HB3.out.2)
   have hnj := HNJ.out
   rw [if_pos rfl] at hnj
   have HNJ2 := kH hnj
   clear hnj HNJ
   simp only [errV]
   go_wp2_with fail
   refine HA.out.mono ?_
   rintro e w4 ⟨rfl, hjt⟩
   have HJT := kH hjt
   clear hjt HA
   generalize hev : errV (appJ n J3 tx).2 = ev
   have HEV := kH hev
   clear hev
   go_wp2
   go_ret
   rw [HNJ2.out]
   exact ⟨by rw [HEV.out]; rfl, JTo.then_ HF3.out.2.1 HF3.out.2.2 HJT.out⟩
  ·have hnj := HNJ.out
   rw [if_neg he] at hnj
   have HNJ2 := kH hnj
   obtain ⟨i, rfl⟩ : ∃ i, e3 = i + 1 := ⟨e3 - 1, by omega⟩
   clear hnj HNJ he
   simp only [errV]
   go_wp2
   go_ret
   rw [HNJ2.out]
   exact ⟨rfl, F3, A3, c3, vt3, us3, HJ3.out, HF3.out.2.1, HF3.out.2.2, HF3.out.1⟩
 ·have hd : decide (((logOf n - J.u : Nat) : Int) < (needOf tx.length : Int)) = false := by simp; omega
  have HR := kH hroom
  clear hroom
  refine tO 8 ?_
  refine x0A (v := .bool false) (w' := w1) (by go_simp; have := HR.out; omega) ⟨⟨HP1.out, HB01.out⟩, ?_⟩
  simp only [nH, pu, nB, nC, nD]
  refine tE ?_
  clear hd
  have hq1 : w1.cell? ⟨gq, 0, none⟩ = some (.pointer (some ⟨x.gj, 0, none⟩)) := HP1.out.cell 0
  have hjx1 := HJS.out.jx.below HB01.out
  have HA := kH (xEM hjx1 HFI.out HSM.out (by omega) hn B cb tx ((HST.out.below HB01.out).more HB01.out.size) hl hlc hcm hne (HTAB.out w1 hjx1.bel) hw0 (fun q hq => ⟨kL (HBF.out q hq).1 HB01.out.size, (HBF.out q hq).2⟩))
  have hnj : noteJ n J (putM M) tx = appJ n J tx := by unfold noteJ; rw [if_neg HR.out]
  have HNJ := kH hnj
  clear hjx1 hnj
  go_wp2_with fail
  refine HA.out.mono ?_
  rintro e w4 ⟨rfl, hjt⟩
  have HJT := kH hjt
  clear hjt HA
  generalize hev : errV (appJ n J tx).2 = ev
  have HEV := kH hev
  clear hev
  go_wp2
  go_ret
  rw [HNJ.out]
  exact ⟨by rw [HEV.out]; rfl, JTo.after HB01.out HJT.out⟩
end
end
section
theorem JX.past {us : List Value} (h : JX w0 w g gj d n gen st txs u F A c vt us) (ho : Only G w w') (hG : ∀ k ∈ G, k ∉ jf gj vt F /\ Odd w 5 k /\ w0.heap.size <= k) : JX w0 w' g gj d n gen st txs u F A c vt us :=
 ⟨h.disk.of (fun k hk => ho.block k (h.disk.under k hk) (fun hm => (hG k hm).1 (by unfold jf; simp [hk]))), h.bel.trans (ho.below (fun k hk => (hG k hk).2.2) h.bel.size), fun k hk => ⟨kL (h.sep k hk).1 ho.size, (h.sep k hk).2⟩,
  h.jb.of (ho.block gj h.jb.lt (fun hm => (hG _ hm).1 (by simp [jf]))), x13 h.own ho (fun k hk hm => by
   obtain ⟨cs, hb⟩ := x0J h.own (x00.1 hk)
   exact (hG k hm).2.1 cs hb),
  ⟨x13 h.tx.1 ho (fun k hk hm => (hG k hm).1 (by unfold jf; simp [hk])), h.tx.2.1, fun i t hi => by
   obtain ⟨B, c, e1, e2⟩ := h.tx.2.2 i t hi
   exact ⟨B, c, e1, x13 e2 ho (fun k hk hm => by
    obtain ⟨cs, hb⟩ := x0J e2 (x00.1 hk)
    exact (hG k hm).2.1 cs hb)⟩⟩, h.gjN⟩
theorem StoreAt.typed (h : StoreAt w Z gs ms gp r c A M kv) (ho : Only G w w') (hG : ∀ k ∈ G, ∃ t cs, Blk w k t cs /\ t ≠ 122 /\ t ≠ 190 /\ t ≠ 4 /\ t ≠ 137 /\ t ≠ 5 /\ t ≠ 198) : StoreAt w' Z gs ms gp r c A M kv :=
  ⟨h.st.typed ho (fun k hk => by obtain ⟨t, cs, hb, h1, h2, h3, _⟩ := hG k hk; exact ⟨t, cs, hb, h1, h2, h3⟩), x6Y h.obs ho (fun k hk => by obtain ⟨t, cs, hb, h1, h2, h3, h4⟩ := hG k hk; exact ⟨t, cs, hb, h4⟩)⟩
theorem JSo.did {n0 : Nat} {x : PX} {J : JS} (h : JSo w0 w n x J M) (hb : Below w.heap.size w w1) (hI : Inv n0 M) {e : Ending} (hd : DoTo w1 x.Z x.gs x.ms x.gp x.r x.cs x.As M nm xs e w') :
  ∃ M' kk told v kv', DoR M nm xs M' kk told /\ e = .returned (.tuple #[v, errV kk]) /\ JSo w0 w' n {x with kv := kv'} J M' /\ ToldR w' w1.heap.size v told /\ Only (x.ms :: foot x.gp x.r M.fl) w w' /\ M'.fl.length = M.fl.length := by
 obtain ⟨hon, M', kk, told, v, kv', hr, hst, rfl, ht⟩ := hd
 obtain ⟨i1, i2, i3⟩ := x7F hI hr
 have h1 := h.below hb
 have hG : ∀ k ∈ x.ms :: foot x.gp x.r M.fl, k ∉ jf x.gj x.vt x.F /\ Odd w1 5 k /\ w0.heap.size <= k := fun k hk => by
  refine ⟨fun hm => ?_, h1.so.odd (by decide) (by decide) k hk, h.nw k hk⟩
  rcases h1.so.kinds hk with rfl | ⟨cs, _, hB⟩ | ⟨cs, _, _, hB⟩
  ·exact (h.zj _ hm).2 rfl
  ·exact h1.jx.odd (by decide) (by decide) (by decide) (by decide) k hm cs hB
  ·exact h1.jx.odd (by decide) (by decide) (by decide) (by decide) k hm cs hB
 refine ⟨M', kk, told, v, kv', hr, rfl, ⟨h1.jx.past hon hG, hst, fun k hk => ?_, h.gsN, h.zj, h.zm, fun z hz => kL (h1.zu z hz) hon.size⟩, ht, (kO hb _).trans hon (kF _ _), i2⟩
 have hk' : k ∈ x.ms :: foot x.gp x.r M'.fl := hk
 rw [x22 i2] at hk'
 exact h.nw k hk'
structure PAt (w0 w : World) (n : Nat) (x : PX) (J : JS) (k : Nat) (M : Mod) : Prop where
 js : JSo w0 w n x J M
 pb : Blk w x.gq 113 (poolC x.gj x.gs false)
 gqN : w0.heap.size <= x.gq
 fine : JFine J.f n J.gen J.st J.txs J.u
 sm : JSm k J
 inv : Inv (16 * k) M
 ia : InvA (16 * k) M
 fl : M.fl.length <= 300
 n5 : n <= 500
 nn : InvN M
 rs : RiseM M
theorem PAt.below {x : PX} {J : JS} (h : PAt w0 w n x J k M) (hb : Below w.heap.size w w') : PAt w0 w' n x J k M :=
  ⟨h.js.below hb, h.pb.below hb h.pb.lt, h.gqN, h.fine, h.sm, h.inv, h.ia, h.fl, h.n5, h.nn, h.rs⟩
theorem PAt.bel {x : PX} {J : JS} (h : PAt w0 w n x J k M) : Below w0.heap.size w0 w := h.js.jx.bel
theorem PAt.more {x : PX} {J : JS} (h : PAt w0 w n x J k M) (hk : k <= k') : PAt w0 w n x J k' M :=
  ⟨h.js, h.pb, h.gqN, h.fine, h.sm.mono hk, h.inv.mono (by omega), h.ia.mono (by omega), h.fl, h.n5, h.nn, h.rs⟩
theorem PAt.put {x : PX} {J : JS} (h : PAt w0 w n x J k M) (hk : k <= 40) : (putM M).length <= 1000000 := by
 have h1 := xMH h.inv h.ia
 have h2 := h.fl
 omega
def pfoot (x : PX) (M : Mod) : LN := x.gq :: ((x.ms :: foot x.gp x.r M.fl) ++ jf x.gj x.vt x.F)
theorem PAt.odd {x : PX} {J : JS} (h : PAt w0 w n x J k M) (h0 : 113 ≠ t) (h1 : 190 ≠ t) (h2 : 4 ≠ t) (h3 : 176 ≠ t) (h4 : 35 ≠ t) (h5 : 106 ≠ t) (h6 : 208 ≠ t) : ∀ q ∈ pfoot x M, Odd w t q := fun q hq => by
 unfold pfoot at hq
 rw [mem_cons, mem_append] at hq
 rcases hq with rfl | hq | hq
 ·exact Odd.blk h.pb h0
 ·exact h.js.so.odd h1 h2 q hq
 ·exact h.js.jx.odd h3 h4 h5 h6 q hq
theorem PAt.under {x : PX} {J : JS} (h : PAt w0 w n x J k M) : ∀ q ∈ pfoot x M, w0.heap.size <= q := fun q hq => by
 unfold pfoot at hq
 rw [mem_cons, mem_append] at hq
 rcases hq with rfl | hq | hq
 ·exact h.gqN
 ·exact h.js.nw q hq
 ·unfold jf at hq
  rw [mem_cons, mem_append] at hq
  rcases hq with rfl | hq | hq
  ·exact h.js.jx.gjN
  ·exact (x0G h.js.jx.tx.1 q hq)
  ·obtain ⟨gm, v, e, hl⟩ := h.js.jx.disk
   rw [e] at hq
   simp only [mem_cons] at hq
   rcases hq with rfl | rfl | hq
   ·exact hl.bg
   ·exact hl.bm
   ·exact x0G hl.row q hq
inductive PDo (n : Nat) (J : JS) (M : Mod) (nm : LN) (xs : List StepV) : JS -> Mod -> Nat -> List LN -> Prop
 | read {M' : Mod} {kk : Nat} {told : List LN} : xs.any lastB = false -> DoR M nm xs M' kk told -> PDo n J M nm xs J M' kk told
 | bad {M' : Mod} {kk : Nat} {told : List LN} : xs.any lastB = true -> DoR M nm xs M' kk told -> kk ≠ 0 -> PDo n J M nm xs J M kk []
 | full {M' : Mod} {told : List LN} : xs.any lastB = true -> DoR M nm xs M' 0 told -> (noteJ n J (putM M) (opB nm xs)).2 ≠ 0 -> PDo n J M nm xs (noteJ n J (putM M) (opB nm xs)).1 M (noteJ n J (putM M) (opB nm xs)).2 []
 | done {M' : Mod} {told : List LN} : xs.any lastB = true -> DoR M nm xs M' 0 told -> (noteJ n J (putM M) (opB nm xs)).2 = 0 -> PDo n J M nm xs (noteJ n J (putM M) (opB nm xs)).1 M' 0 told
def PDoTo (w0 w : World) (n : Nat) (x : PX) (J : JS) (k : Nat) (M : Mod) (nm : LN) (xs : List StepV) (e : Ending) (w' : World) : Prop :=
  ∃ x' J' M' kk v told, PDo n J M nm xs J' M' kk told /\ e = .returned (.tuple #[v, errV kk]) /\ PAt w0 w' n x' J' (k + 1) M' /\ x'.gq = x.gq /\ x'.g = x.g /\ ToldR w' w.heap.size v told /\ Only (pfoot x M) w w' /\ Fresh w (pfoot x M) (pfoot x' M') /\ ∀ z ∈ x.Z, z ∈ x'.Z
theorem xAR (w : World) (p : Addr) (cs : List Value) (hl : cs.length = 4) (hc : ∀ j v, cs[j]? = some v -> w.cell? (p.add j) = some v) : (loadVar 128 p).run prog w = .ok (.agg cs.toArray) w := by
 have hl : (loadCells p 4).run prog w = .ok cs.toArray w := by have := run_loadCells_list (P := prog) w p cs hc; rwa [hl] at this
 have hagg : (isAgg 128).run prog w = .ok true w := by
  unfold isAgg
  rw [Sem.run_bind, run_underlying underlying128 w]
  rfl
 have hi : (prog.info? 128).map (·.size) = some 4 := by kernel_rfl
 cases hq : prog.info? 128 with
 | none => simp [hq] at hi
 | some i =>
  have hs : i.size = 4 := by simpa [hq] using hi
  simp [loadVar, Sem.run_bind, hagg, sizeOf, typeInfo, hq, hs, hl]
theorem x33 {o : Oper} {x : Operand} {cs : Array Value} (h4 : cs.size = 4) (ho : o.op = .load 128 x) (hx : a.eval x = .pointer (some ⟨g, 0, none⟩)) (h : Blk w g 128 cs) : (execOp a.eval o).run prog w = .ok (.value (.agg cs)) w := by
 have hr := xAR w ⟨g, 0, none⟩ cs.toList (by simpa using h4) (fun j v hj => by
  have : (⟨g, 0, none⟩ : Addr).add j = ⟨g, j, none⟩ := by simp [Addr.add]; intro h; exact h.symm
  rw [this, h.cell]
  simpa using hj)
 unfold execOp
 simp only [ho, hx, Instr.loadAt, Instr.sureAddr, Sem.run_bind, Sem.run_pure, kS, hr]
theorem x15 {rest : List Oper} {op : Oper} (hgd : op.guard = none) (x : Operand) (ho : op.op = .load 128 x) (g : Nat) (hx : a.eval x = .pointer (some ⟨g, 0, none⟩)) (cs : Array Value) (h4 : cs.size = 4) (hb : Blk w g 128 cs)
 (h : wpList prog ops Q rest (a.put op.dst (.agg cs)) w) : wpList prog ops Q (op :: rest) a w :=
 wpList_plain hgd fun _ hK => by
  unfold Oper.wp
  rw [x33 h4 ho hx hb]
  exact hK _ _ h
section
variable {w0 w : World} {n k : Nat} {x : PX} {J : JS} {M : Mod}
theorem xNH (h : PAt w0 w n x J k M) (hk : k <= 40) {cs : Nat} (nm : LN) (hsm : Small nm) (hnm : nm.length <= 1000000) (hl : StepsR w B As l) (hB : B <= w.heap.size) (hll : l.length <= cs) (hl6 : l.length <= 1000000) (hno : (l.map SV.x).any lastB = false) :
  Calls prog 62 #[.pointer (some ⟨x.gq, 0, none⟩), .agg (chC 1 nm As l.length cs 0)] w (PDoTo w0 w n x J k M nm (l.map SV.x)) := by
 obtain ⟨w1, hw1⟩ := kX (w.alloc (.cells (chC 1 nm As l.length cs 0) 128))
 have hb1 : Below w.heap.size w w1 := by rw [hw1]; exact x05 _ _
 have K1 : Blk w1 w.heap.size 128 (chC 1 nm As l.length cs 0) := by rw [hw1]; exact kW _ _ _
 have hp1 := h.pb.below hb1 h.pb.lt
 have q2 : w1.cell? ⟨x.gq, 2, none⟩ = some (.bool false) := hp1.cell 2
 have HLA := kH (xDA nm (hl.since hb1) (kT hB hb1.size) hl6 (cs := cs))
 rw [hno] at HLA
 have HH := kH h
 have HL := kH hl
 have HW1 := kH hw1
 have HB1 := kH hb1
 have HK1 := kH K1
 have HP1 := kH hp1
 have HNO := kH hno
 clear hw1 hb1 h hl hp1 hno
 have hKk := HK1.out
 go_enter func62, ntmps62
 go_wp2_with (first | rw [<- HW1.out] | (refine x15 rfl (.tmp 3) rfl w.heap.size rfl (chC 1 nm As l.length cs 0) rfl HK1.out ?_))
 refine HLA.out.mono ?_
 rintro e w2 ⟨rfl, hb2⟩
 have HB2 := kH hb2
 have hS2 : Blk w2.drew x.gq 113 (poolC x.gj x.gs false) /\ Blk w2.drew w.heap.size 128 (chC 1 nm As l.length cs 0) := ⟨(HP1.out.below hb2 HP1.out.lt).drew, (K1.below hb2 K1.lt).drew⟩
 have hbd : Below w.heap.size w w2.drew := (HB1.out.trans (hb2.mono HB1.out.size)).trans ((x08 (kB _ _) 1).mono (kT HB1.out.size hb2.size))
 have HBD := kH hbd
 clear hb2 hKk hbd
 go_upto_region 6 with (fail)
 refine x09 (fun w' => Blk w' x.gq 113 (poolC x.gj x.gs false) /\ Blk w' w.heap.size 128 (chC 1 nm As l.length cs 0)) 9 (by kernel_rfl) ?_
 refine tU 0 (.agg (chC 1 nm As l.length cs 0)) rfl (fun w hw => x33 rfl rfl rfl hw.2) hS2 ?_
 refine tU 1 (.pointer (some ⟨x.gq, 0, none⟩)) rfl (fun w hw => by kernel_rfl) hS2 ?_
 refine tU 2 (.pointer (some ⟨x.gq, 0, none⟩)) rfl (fun w hw => by kernel_rfl) hS2 ?_
 refine tU 3 (.pointer (some ⟨x.gq, 1, none⟩)) rfl (fun w hw => by go_simp) hS2 ?_
 refine tU 4 (.pointer (some ⟨x.gs, 0, none⟩)) rfl (fun w hw => by have q : w.cell? ⟨x.gq, 1, none⟩ = some (.pointer (some ⟨x.gs, 0, none⟩)) := hw.1.cell 1; go_simp) hS2 ?_
 have hj2 := HH.out.js.below HBD.out
 have hcd := xDI hj2.so hj2.zm hj2.zu HH.out.inv (by omega) nm hsm hnm (HL.out.since HBD.out) (kT hB HBD.out.size) hll hl6
 refine tO 5 ?_
 refine x03 (by kernel_rfl) hcd ?_
 rintro e w4 ⟨w3, hb3, hdo⟩
 obtain ⟨M', kk, told, v, kv', hr, rfl, hj4, ht4, hon4, hfl4⟩ := hj2.did hb3 HH.out.inv hdo
 have hp4 : Blk w4 x.gq 113 (poolC x.gj x.gs false) := hS2.1.of (hon4.block _ hS2.1.lt (x1J hS2.1 (hj2.so.odd (by decide) (by decide))))
 have hk4 : Blk w4 w.heap.size 128 (chC 1 nm As l.length cs 0) := hS2.2.of (hon4.block _ hS2.2.lt (x1J hS2.2 (hj2.so.odd (by decide) (by decide))))
 have hfin : PDoTo w0 w n x J k M nm (l.map SV.x) (.returned (.tuple #[v, errV kk])) w4 := by
  have hh := HH.out
  obtain ⟨i1, i2, i3⟩ := x7F hh.inv hr
  have hbs := HBD.out.size
  have hon : Only (x.ms :: foot x.gp x.r M.fl) w w4 := (kO HBD.out _).trans hon4 (kF _ _)
  refine ⟨_, J, M', kk, v, told, .read HNO.out hr, rfl, ⟨hj4, hp4, hh.gqN, hh.fine, hh.sm.mono (by omega), i1.mono (by omega), (xAY hh.inv.keys hh.ia hr).mono (by omega), by rw [hfl4]; exact hh.fl, hh.n5, xAM hh.nn hr, xAU hh.rs hr⟩, rfl, rfl, ?_, hon.mono (fun q hq => kM _ (mem_append_left _ hq)), fun q hq => .inl ?_, fun z hz => hz⟩
  ·obtain ⟨T, ct, tv, e, h1, h2⟩ := ht4
   have hle : w.heap.size <= w3.heap.size := kT hbs hb3.size
   exact ⟨T, ct, tv, e, x0B h1 hle, h2.imp fun a b hx => hx.weaken hle⟩
  ·unfold pfoot at hq ⊢
   rw [x22 hfl4] at hq
   exact hq
 have HFIN := kH hfin
 clear hfin hj4 ht4 hon4 hfl4 hdo hcd hj2 hb3
 refine ⟨_, rfl, ⟨hp4, hk4⟩, ?_⟩
 simp only [nH, pu, nB, nC, nD]
 generalize hev : errV kk = ev at HFIN
 refine tU 6 v rfl (fun w hw => by kernel_rfl) ⟨hp4, hk4⟩ ?_
 refine tU 7 ev rfl (fun w hw => by subst hev; kernel_rfl) ⟨hp4, hk4⟩ ?_
 refine tO 8 ?_
 refine x0A (v := v) (w' := w4) (by kernel_rfl) ⟨⟨hp4, hk4⟩, ?_⟩
 simp only [nH, pu, nB, nC, nD]
 refine tZ ?_
 refine x0A (v := ev) (w' := w4) (by kernel_rfl) ?_
 refine NoPanic.normal ?_
 simp only [nH, pu, nB, nC, nD]
 clear hp4 hk4 hS2
 go_wp2
 go_ret2
 exact HFIN.out
end
end
section
theorem isdown4 (w : World) : Calls prog 110 #[errV 4] w fun e w' => e = .returned (.bool false) /\ w = w' := by
 have hta : ∀ (n : Int) (w : World), (Instr.typeAssert (.iface 46 (.int .i64 n)) 28 46 true).run prog w = .ok (.tuple #[.int .i64 n, .bool true]) w := fun n w => by kernel_rfl
 simp only [errV]
 go_enter func110, ntmps110
 go_wp2
 go_ret
 exact ⟨rfl, rfl⟩
theorem xCT {J : JS} (hb : J.b = false) : (noteJ n J st tx).2 = 0 ∨ (noteJ n J st tx).2 = 4 := by
 have h1 : ∀ (K : JS) (t : LN), K.b = false -> (appJ n K t).2 = 0 ∨ (appJ n K t).2 = 4 := fun K t hK => by
  unfold appJ
  split
  ·exact .inr rfl
  ·split
   ·rename_i h; rw [hK] at h; exact absurd h.1 (by decide)
   ·exact .inl rfl
 have h2 : ((ckptJ n J st).2 = 0 ∨ (ckptJ n J st).2 = 4) /\ (ckptJ n J st).1.b = false := by
  unfold ckptJ
  split
  ·exact ⟨.inr rfl, hb⟩
  ·split
   ·rename_i h; rw [hb] at h; exact absurd h.1 (by decide)
   ·exact ⟨.inl rfl, hb⟩
 unfold noteJ
 split
 ·split
  ·exact h1 _ _ h2.2
  ·exact h2.1
 ·exact h1 _ _ hb
theorem JSo.set {gq : Nat} {x : PX} {J : JS} {cs : Array Value} (h : JSo w0 w n x J M) (hb : Blk w gq 113 cs) (hq : w0.heap.size <= gq) (ho : Only [gq] w w') : JSo w0 w' n x J M :=
  ⟨h.jx.past ho (fun k hk => by
      simp at hk
      subst hk
      exact ⟨x1J hb (h.jx.odd (by decide) (by decide) (by decide) (by decide)), Odd.blk hb (by decide), hq⟩),
    h.so.typed ho (fun k hk => by
      simp at hk
      subst hk
      exact ⟨_, _, hb, by decide, by decide, by decide, by decide, by decide, by decide⟩), h.nw, h.gsN, h.zj, h.zm, fun z hz => kL (h.zu z hz) ho.size⟩
theorem ToldR.past {v : Value} (h : ToldR w B v told) (ho : Only G w w') (hG : ∀ k ∈ G, k < B ∨ w.heap.size <= k) : ToldR w' B v told := by
 obtain ⟨T, ct, tv, e, h1, h2⟩ := h
 have hr : ∀ {size n : Nat} {t : TypeId} {u : Value} {xs : List Value}, w.ownsRow B t size u n xs -> w'.ownsRow B t size u n xs := fun {size n t u xs} hu => x13 hu ho fun k hk hm => by
  have h3 := x0G hu k hk
  have h4 := x02 hu k hk
  rcases hG k hm with h5 | h5 <;> omega
 refine ⟨T, ct, tv, e, hr h1, h2.imp fun a b hx => ?_⟩
 obtain ⟨A, c, e1, e2, e3, e4⟩ := hx
 exact ⟨A, c, e1, hr e2, e3, e4⟩
theorem ToldR.low {B' : Nat} {v : Value} (h : ToldR w B v told) (hb : B' <= B) : ToldR w B' v told := by
 obtain ⟨T, ct, tv, e, h1, h2⟩ := h
 exact ⟨T, ct, tv, e, x0B h1 hb, h2.imp fun a b hx => hx.weaken hb⟩
theorem ToldR.since {v : Value} (h : ToldR w B v told) (hb : Below w.heap.size w w') : ToldR w' B v told := h.past (G := []) (kO hb _) (fun k hk => by cases hk)
theorem xJP (nm : LN) (xs : List StepV) : opB nm xs ≠ [] := by unfold opB; simp
section
variable {w0 w : World} {n k : Nat} {x : PX} {J : JS} {M : Mod}
theorem xNM (h : PAt w0 w n x J k M) (hT : Tab w0) (hw0 : 0 < w0.heap.size) (hk : k <= 40) {cs : Nat} (nm : LN) (hsm : Small nm) (hnm : nm.length <= 1000000) (hl : StepsR w B As l) (hB : B <= w.heap.size) (hll : l.length <= cs) (hl6 : l.length <= 1000000) (hyes : (l.map SV.x).any lastB = true) (hlen : (opB nm (l.map SV.x)).length <= 1000000) :
  Calls prog 62 #[.pointer (some ⟨x.gq, 0, none⟩), .agg (chC 1 nm As l.length cs 0)] w (PDoTo w0 w n x J k M nm (l.map SV.x)) := by
 obtain ⟨w1, hw1⟩ := kX (w.alloc (.cells (chC 1 nm As l.length cs 0) 128))
 have hb1 : Below w.heap.size w w1 := by rw [hw1]; exact x05 _ _
 have K1 : Blk w1 w.heap.size 128 (chC 1 nm As l.length cs 0) := by rw [hw1]; exact kW _ _ _
 have hp1 := h.pb.below hb1 h.pb.lt
 have q2 : w1.cell? ⟨x.gq, 2, none⟩ = some (.bool false) := hp1.cell 2
 have HLA := kH (xDA nm (hl.since hb1) (kT hB hb1.size) hl6 (cs := cs))
 rw [hyes] at HLA
 have HH := kH h
 have HL := kH hl
 have HW1 := kH hw1
 have HB1 := kH hb1
 have HK1 := kH K1
 have HP1 := kH hp1
 have HYES := kH hyes
 clear hw1 hb1 h hl hp1 hyes
 go_enter func62, ntmps62
 go_wp2_with (first | rw [<- HW1.out] | (refine x15 rfl (.tmp 3) rfl w.heap.size rfl (chC 1 nm As l.length cs 0) rfl HK1.out ?_))
 refine HLA.out.mono ?_
 rintro e w2 ⟨rfl, hb2⟩
 have hb02 : Below w.heap.size w w2 := HB1.out.trans (hb2.mono HB1.out.size)
 have hp2 := HH.out.pb.below hb02 HH.out.pb.lt
 have hk2 := HK1.out.below hb2 K1.lt
 have q1 : w2.cell? ⟨x.gq, 1, none⟩ = some (.pointer (some ⟨x.gs, 0, none⟩)) := hp2.cell 1
 have HB2 := kH hb02
 have HK2 := kH hk2
 have hj2 := HH.out.js.below hb02
 have HJ2 := kH hj2
 have HCP := kH (x9S hj2.so)
 clear hb2 hb02 hp2 hk2 hj2 K1 HLA
 go_wp2_with fail
 refine HCP.out.mono ?_
 rintro e w3 ⟨gs, ms, gp, r, c, A3, rfl, hso3, hg3, hn3, hb3⟩
 have hk3 := HK2.out.below hb3 HK2.out.lt
 have hb03 : Below w.heap.size w w3 := HB2.out.trans (hb3.mono HB2.out.size)
 have hzu3 : ∀ z ∈ ms :: x.Z, z < w3.heap.size := fun z hz => by
  rcases kQ hz with rfl | hz
  ·exact hso3.st.map.lt
  ·exact kL (HJ2.out.zu z hz) hb3.size
 have HCD := kH (xDI hso3 (by simp) hzu3 HH.out.inv (by omega) nm hsm hnm (HL.out.since hb03) (kT hB hb03.size) hll hl6)
 have HK3 := kH hk3
 have H3 := kH (kA hso3 (kA hg3 (kA hn3 (kA hb3 hzu3))))
 clear hk3 hb03 hzu3 hso3 hg3 hn3 hb3 HCP q1 q2
 go_wp2_with (refine x15 rfl (.tmp 3) rfl w.heap.size rfl (chC 1 nm As l.length cs 0) rfl HK3.out ?_)
 refine HCD.out.mono ?_
 rintro e w5 ⟨w4, hb4, hon5, M', kk, told, v, kv', hr, hso5, rfl, ht5⟩
 obtain ⟨i1, i2, i3⟩ := x7F HH.out.inv hr
 have hb34 : Below w2.heap.size w2 w4 := H3.out.2.2.2.1.trans (hb4.mono H3.out.2.2.2.1.size)
 have hb25 : Below w2.heap.size w2 w5 := hb34.trans (hon5.below H3.out.2.2.1 hb34.size)
 have hb05 : Below w.heap.size w w5 := HB2.out.trans (hb25.mono HB2.out.size)
 have hs24 : w.heap.size <= w4.heap.size := kT HB2.out.size hb34.size
 have HB5 := kH hb05
 have HT5 := kH (ht5.low (B' := w.heap.size) hs24)
 have HT5' := kH ht5
 have HS24 := kH hs24
 have HR := kH hr
 have hk5 : Blk w5 w.heap.size 128 (chC 1 nm As l.length cs 0) := HK2.out.below hb25 HK2.out.lt
 have HK5 := kH hk5
 have hp5 := HH.out.pb.below hb05 HH.out.pb.lt
 have HP5 := kH hp5
 have hnew : JSo w0 w5 n {x with gs := gs, ms := ms, gp := gp, r := r, cs := c, As := A3, kv := kv', Z := ms :: x.Z} J M' := HJ2.out.swap hb25 hso5 (fun z hz => by simp [hz]) (by simp) (fun z hz => kL (H3.out.2.2.2.2 z hz) (kT hb4.size hon5.size)) (fun q hq => H3.out.2.2.1 q (by rw [x22 i2] at hq; exact hq)) H3.out.2.1
 have HNEW := kH hnew
 have HI := kH (kA i1 (kA i2 i3))
 have HN3 := kH (kA H3.out.2.2.1 H3.out.2.1)
 clear hb34 hb25 hb05 hs24 hr hso5 ht5 hon5 hb4 hk5 hp5 hnew i1 i2 i3 H3 HCD
 cases hkk : kk with
 | succ i =>
  have hfin : PDoTo w0 w n x J k M nm (l.map SV.x) (.returned (.tuple #[.slice none 0 0, errV (i + 1)])) w5 :=
   ⟨x, J, M, i + 1, .slice none 0 0, [], .bad HYES.out (hkk ▸ HR.out) (by omega), rfl, (HH.out.below HB5.out).more (by omega), rfl, rfl, ToldR.nil _ _, kO HB5.out _, kF _ _, fun z hz => hz⟩
  have HFIN := kH hfin
  clear hfin
  simp only [errV] at HFIN ⊢
  go_wp2
  go_ret2
  exact HFIN.out
 | zero =>
  subst hkk
  simp only [errV]
  have HTX := kH (xG6 nm hsm hnm (HL.out.since HB5.out) (kT hB HB5.out.size) hl6 (by omega) (cs := cs))
  go_wp2_with (refine x15 rfl (.tmp 3) rfl w.heap.size rfl (chC 1 nm As l.length cs 0) rfl HK5.out ?_)
  refine HTX.out.mono ?_
  rintro e w6 ⟨v6, rfl, ho6, hb6⟩
  obtain ⟨A6, c6, rfl⟩ := x0H ho6
  obtain ⟨hc6, hcm6⟩ := x5K ho6
  have hb06 : Below w.heap.size w w6 := HB5.out.trans (hb6.mono HB5.out.size)
  have hp6 := HH.out.pb.below hb06 HH.out.pb.lt
  have hopl : 0 < (opB nm (l.map SV.x)).length := length_pos_iff.2 (xJP _ _)
  have hsmall : Small (opB nm (l.map SV.x)) := xBO hsm (fun y hy => by
   obtain ⟨s, hs, rfl⟩ := List.mem_map.1 hy
   have := HL.out.els s hs
   exact ⟨this.nm, this.dat.2⟩)
  have hblk : ∀ q ∈ blkOf A6, q < w6.heap.size /\ q ∉ jf x.gj x.vt x.F := fun q hq => by
   have h1 := x4I ho6 hopl q hq
   refine ⟨h1.2, fun hm => ?_⟩
   have h2 := HH.out.js.jx.under q hm
   have := HB5.out.size
   omega
  have HNT := kH (xCU (HH.out.js.below hb06) hp6 HH.out.fine HH.out.sm (by omega) HH.out.n5 HH.out.inv (by omega) (HH.out.put hk) A6 c6 (opB nm (l.map SV.x)) (ho6.bytes hsmall) hlen hc6 hcm6 (xJP _ _) hT hw0 hblk)
  have HB6 := kH (kA hb06 hb6)
  have HP6 := kH hp6
  clear ho6 hc6 hcm6 hb06 hb6 hp6 hopl hsmall hblk HTX
  go_wp2_with fail
  refine HNT.out.mono ?_
  rintro e w7 ⟨rfl, F7, A7, c7, vt7, us7, hj7, ho7, hf7, hfi7⟩
  have hp7 : Blk w7 x.gq 113 (poolC x.gj x.gs false) := HP6.out.of (ho7.block _ HP6.out.lt (x1J HP6.out ((HH.out.js.below HB6.out.1).jx.odd (by decide) (by decide) (by decide) (by decide))))
  have HP7 := kH hp7
  have H7 := kH (kA hj7 (kA ho7 (kA hf7 hfi7)))
  have hsm7 := xG3 (st := putM M) (tx := opB nm (l.map SV.x)) HH.out.n5 HH.out.sm
  have hne7 := xCT (n := n) (st := putM M) (tx := opB nm (l.map SV.x)) HH.out.sm.b
  have HSM7 := kH hsm7
  have hju : ∀ q ∈ jf x.gj x.vt x.F, q < w.heap.size := HH.out.js.jx.under
  have HJU := kH hju
  have hon07 : Only (pfoot x M) w w7 := (kO HB6.out.1 _).trans (ho7.mono (G := pfoot x M) (fun q hq => kM _ (mem_append_right _ hq))) (kF _ _)
  have HON := kH hon07
  clear hj7 ho7 hf7 hfi7 hp7 hsm7 hju hon07 HNT
  rcases hne7 with he | he
  ·have hpd : PDo n J M nm (l.map SV.x) (noteJ n J (putM M) (opB nm (l.map SV.x))).1 M' 0 told := .done HYES.out HR.out he
   have HPD := kH hpd
   rw [he]
   clear hpd he
   simp only [errV]
   generalize noteJ n J (putM M) (opB nm (l.map SV.x)) = NJ at *
   obtain ⟨J', ej⟩ := NJ
   dsimp only at *
   go_wp2_with (refine x0I rfl 36 _ _ rfl x.gq 1 113 (poolC x.gj x.gs false) (.pointer (some ⟨gs, 0, none⟩)) rfl rfl HP7.out (by simp [poolC]) (by kernel_rfl) rfl ?_; intro w8 K8 o8 s8)
   go_ret2
   have hh := HH.out
   have hn6 := HNEW.out.below HB6.out.2
   have hn7 := hn6.noted H7.out.1 H7.out.2.1 H7.out.2.2.1
   have hn8 := hn7.set (gq := x.gq) HP7.out hh.gqN o8
   refine ⟨_, J', M', 0, v, told, HPD.out, rfl, ⟨hn8, K8, hh.gqN, H7.out.2.2.2, HSM7.out, HI.out.1.mono (by omega), (xAY hh.inv.keys hh.ia HR.out).mono (by omega), by rw [HI.out.2.1]; exact hh.fl, hh.n5, xAM hh.nn HR.out, xAU hh.rs HR.out⟩, rfl, rfl, ?_, ?_, ?_, fun z hz => mem_append_right _ (kM _ hz)⟩
   ·refine ((HT5'.out.since HB6.out.2).past H7.out.2.1 (fun q hq => .inl ?_)).past o8 (fun q hq => ?_) |>.low HS24.out
    ·exact kL (HJU.out q hq) HS24.out
    ·simp at hq
     subst hq
     exact .inl (kL hh.pb.lt HS24.out)
   ·refine HON.out.trans (o8.mono (G := pfoot x M) (fun q hq => ?_)) (kF _ _)
    simp at hq
    subst hq
    exact mem_cons_self
   ·intro q hq
    unfold pfoot at hq ⊢
    rw [mem_cons, mem_append] at hq
    rcases hq with rfl | hq | hq
    ·exact .inl mem_cons_self
    ·have h1 : w2.heap.size <= q := HN3.out.1 q (by rw [x22 HI.out.2.1] at hq; exact hq)
     exact .inr (kT HB2.out.size h1)
    ·rcases H7.out.2.2.1 q hq with h1 | h1
     ·exact .inl (kM _ (mem_append_right _ h1))
     ·exact .inr (kT HB6.out.1.size h1)
  ·have hpd : PDo n J M nm (l.map SV.x) (noteJ n J (putM M) (opB nm (l.map SV.x))).1 M 4 [] := he ▸ .full HYES.out HR.out (by rw [he]; omega)
   have HPD := kH hpd
   have HID := isdown4 w7
   rw [he]
   clear hpd he
   simp only [errV] at HID ⊢
   have HID := kH HID
   generalize noteJ n J (putM M) (opB nm (l.map SV.x)) = NJ at *
   obtain ⟨J', ej⟩ := NJ
   dsimp only at *
   go_wp2_with fail
   refine HID.out.mono ?_
   rintro e w' ⟨rfl, rfl⟩
   go_wp2_with (refine x0I rfl 4 _ _ rfl x.gq 2 113 (poolC x.gj x.gs false) (.bool false) rfl rfl HP7.out (by simp [poolC]) (by kernel_rfl) rfl ?_; intro w8 K8 o8 s8)
   go_ret2
   have hh := HH.out
   have hn6 := hh.js.below HB6.out.1
   have hn7 := hn6.noted H7.out.1 H7.out.2.1 H7.out.2.2.1
   have hn8 := hn7.set (gq := x.gq) HP7.out hh.gqN o8
   refine ⟨_, J', M, 4, .slice none 0 0, [], HPD.out, rfl, ⟨hn8, K8, hh.gqN, H7.out.2.2.2, HSM7.out, hh.inv.mono (by omega), hh.ia.mono (by omega), hh.fl, hh.n5, hh.nn, hh.rs⟩, rfl, rfl, ToldR.nil _ _, ?_, ?_, fun z hz => mem_append_right _ hz⟩
   ·refine HON.out.trans (o8.mono (G := pfoot x M) (fun q hq => ?_)) (kF _ _)
    simp at hq
    subst hq
    exact mem_cons_self
   ·intro q hq
    unfold pfoot at hq ⊢
    rw [mem_cons, mem_append] at hq
    rcases hq with rfl | hq | hq
    ·exact .inl mem_cons_self
    ·exact .inl (kM _ (mem_append_left _ hq))
    ·rcases H7.out.2.2.1 q hq with h1 | h1
     ·exact .inl (kM _ (mem_append_right _ h1))
     ·exact .inr (kT HB6.out.1.size h1)
end
end
section
section
variable {w0 w : World} {n k : Nat} {x : PX} {J : JS} {M : Mod}
theorem xP4 (h : PAt w0 w n x J k M) (hT : Tab w0) (hw0 : 0 < w0.heap.size) (hk : k <= 40) {cs : Nat} (nm : LN) (hsm : Small nm) (hnm : nm.length <= 1000000) (hl : StepsR w B As l) (hB : B <= w.heap.size) (hll : l.length <= cs) (hl6 : l.length <= 1000000) (hlen : (opB nm (l.map SV.x)).length <= 1000000) :
  Calls prog 62 #[.pointer (some ⟨x.gq, 0, none⟩), .agg (chC 1 nm As l.length cs 0)] w (PDoTo w0 w n x J k M nm (l.map SV.x)) := by
 cases hy : (l.map SV.x).any lastB with
 | false => exact xNH h hk nm hsm hnm hl hB hll hl6 hy
 | true => exact xNM h hT hw0 hk nm hsm hnm hl hB hll hl6 hy hlen
theorem x7Y (h : PAt w0 w n x J k M) (hT : Tab w0) (hw0 : 0 < w0.heap.size) (hk : k <= 40) {cs : Nat} (nm : LN) (hsm : Small nm) (hnm : nm.length <= 1000000) (hl : StepsR w B As l) (hB : B <= w.heap.size) (hll : l.length <= cs) (hl6 : l.length <= 1000000) (hlen : (opB nm (l.map SV.x)).length <= 1000000) :
  Calls prog 20 #[.pointer (some ⟨x.gq, 0, none⟩), .string (strOf nm), .slice As l.length cs] w (PDoTo w0 w n x J k M nm (l.map SV.x)) := by
 have HD := kH (xP4 h hT hw0 hk nm hsm hnm hl hB hll hl6 hlen)
 have hbd : ∀ w, (Instr.build 128 #[(0, .int .u8 1), (1, .string (strOf nm)), (2, .slice As l.length cs)]).run prog w = .ok (.agg (chC 1 nm As l.length cs 0)) w := fun w => by kernel_rfl
 clear h hl
 go_enter func20, ntmps20
 go_wp2_with fail
 refine HD.out.mono ?_
 rintro e w' ⟨x', J', M', kk, v, told, h1, rfl, h2⟩
 have HF : Hid (PDoTo w0 w n x J k M nm (l.map SV.x) (.returned (.tuple #[v, errV kk])) w') := kH ⟨x', J', M', kk, v, told, h1, rfl, h2⟩
 clear h1 h2 hbd
 generalize errV kk = ev at HF
 go_wp2
 go_ret2
 exact HF.out
theorem xCQ (h : PAt w0 w n x J k M) : Calls prog 34 #[.pointer (some ⟨x.gq, 0, none⟩)] w fun e w' => e = .returned (.int .i64 J.gen) /\ w = w' := by
 have HC := kH (xO3 h.js.jx.jb)
 have q1 : w.cell? ⟨x.gq, 0, none⟩ = some (.pointer (some ⟨x.gj, 0, none⟩)) := h.pb.cell 0
 clear h
 go_enter func34, ntmps34
 go_wp2_with fail
 refine HC.out.mono ?_
 rintro e w' ⟨rfl, rfl⟩
 go_wp2
 go_ret
 exact ⟨rfl, rfl⟩
end
theorem xB6 (h : DiskAt w base F g d) : ∀ k ∈ F, OffS w k := fun k hk => by
 obtain ⟨gm, v, rfl, hl⟩ := h
 have hO : ∀ t, 106 ≠ t -> 208 ≠ t -> Odd w t k := fun t h1 h2 => by
  simp only [mem_cons] at hk
  rcases hk with rfl | rfl | hk
  ·exact Odd.blk hl.blk h1
  ·obtain ⟨f, hm, _⟩ := hl.map
   exact Odd.mapAt hm
  ·obtain ⟨cs, hb⟩ := x0J hl.row (x00.1 hk)
   exact Odd.blk hb h2
 exact ⟨hO _ (by decide) (by decide), hO _ (by decide) (by decide), hO _ (by decide) (by decide), hO _ (by decide) (by decide), hO _ (by decide) (by decide), hO _ (by decide) (by decide)⟩
noncomputable def J0 (n b : Nat) : JS := ⟨fmtF n (fun _ => Sec.zero) (putM (M0 b)), pn (putM (M0 b)) + 6, 1, putM (M0 b), [], 0, false, 0⟩
theorem x3E (b : Nat) : (putM (M0 b)).length = 24 := by
 have h : (srt ([] : List Key)) = [] := by unfold srt; simp
 simp [putM, M0, x04, flB, flags8, h]
theorem pn0 (b : Nat) : pn (putM (M0 b)) = 1 := by unfold pn; rw [x3E]
theorem x51 {b : Nat} (hd : DiskAt w w0.heap.size F g (DM.idle n (fun _ => Sec.zero) 0 0)) (hb : Below w0.heap.size w0 w) (hn : n <= 500) (hn8 : 8 <= n) (hbl : b <= 300) (hT : Tab w0) (hw0 : 0 < w0.heap.size) :
  Calls prog 13 #[.pointer (some ⟨g, 0, none⟩), .int .i64 b] w fun e w' => ∃ x, e = .returned (.tuple #[.pointer (some ⟨x.gq, 0, none⟩), .nilIface]) /\ x.g = g /\ PAt w0 w' n x (J0 n b) 0 (M0 b) /\ Only F w w' /\ Fresh w F (pfoot x (M0 b)) := by
 have HD := kH hd
 have HB := kH hb
 clear hd hb
 go_enter func13, ntmps13
 go_wp2_with fail
 refine (xBD b (by omega) w).mono ?_
 rintro e w1 ⟨p, rfl, gs, ms, gp, r, c, As, rfl, hst, hg1, hg2, hg3, hg4, hb1⟩
 have hso1 : ∀ Z, StoreAt w1 Z gs ms gp r c As (M0 b) [] := fun Z => ⟨hst, .nil⟩
 have HPT := kH (xBM (hso1 []) (inv0 (n := b) (by omega)) (by omega) (by rw [x3E]; omega))
 have HSO := kH hso1
 have HG := kH (kA hg1 (kA hg2 (kA hg3 (kA hg4 hb1))))
 clear hst hg1 hg2 hg3 hg4 hb1 hso1
 go_wp2_with fail
 refine HPT.out.mono ?_
 rintro e w2 ⟨v, rfl, ho2, hb2, hsm⟩
 obtain ⟨A2, c2, rfl⟩ := x0H ho2
 obtain ⟨hc2, hcm2⟩ := x5K ho2
 have hb02 : Below w.heap.size w w2 := HG.out.2.2.2.2.trans (hb2.mono HG.out.2.2.2.2.size)
 have hw02 : Below w0.heap.size w0 w2 := HB.out.trans (hb02.mono HB.out.size)
 have hd2 := HD.out.of (x1V hb02 HD.out.under)
 have hpn := pn0 b
 have har : 1 <= areaOf n := by unfold areaOf; omega
 obtain ⟨e1, e2⟩ := xNA n 0 0 (fun _ => Sec.zero) (putM (M0 b)) hn8 (by omega)
 have HF := kH (JX.format (n := n) hd2 hw02 rfl (by omega) hn8 A2 c2 (st := putM (M0 b)) (ho2.bytes hsm) (by rw [x3E]; omega) hc2 hcm2 (by omega) (x0O hT hw02 hw0) hw0 (fun q hq => by
  have h1 := x4I ho2 (by rw [x3E]; omega) q hq
  refine ⟨h1.2, fun hm => ?_⟩
  have h2 := HD.out.under q hm
  have := HG.out.2.2.2.2.size
  omega) (xO5 (by omega) (by omega) (by omega)) (by rw [e1]) (by rw [e2]))
 have H2 := kH (kA hb02 (kA hw02 (kA hd2 e2)))
 have HSO2 := kH (fun Z => (HSO.out Z).below hb2)
 have HSM := kH hsm
 have HS12 := kH hb2.size
 clear ho2 hb2 hsm hc2 hcm2 hb02 hw02 hd2 e1 e2 HPT har
 have hbd : ∀ gj w, (Instr.build 113 #[(0, .pointer (some ⟨gj, 0, none⟩)), (1, .pointer (some ⟨gs, 0, none⟩))]).run prog w = .ok (.agg (poolC gj gs false)) w := fun gj w => by kernel_rfl
 go_wp2_with fail
 refine HF.out.mono ?_
 rintro e w3 ⟨gj, A3, c3, F3, rfl, hj3, ho3, hf3, hgj3⟩
 have hh := HG.out
 have hs1 := hh.2.2.2.2.size
 have hs2 := H2.out.1.size
 have hFu := HD.out.under
 have hjm : ∀ q ∈ jf gj (.slice none 0 0) F3, q ∈ F ∨ w2.heap.size <= q := fun q hq => by
  unfold jf at hq
  simp only [rowOf, Value.ownBlock, Option.toList, nil_append, mem_cons] at hq
  rcases hq with rfl | hq
  ·exact .inr hgj3
  ·exact hf3 q hq
 have hso3 : StoreAt w3 (jf gj (.slice none 0 0) F3 ++ (ms :: F)) gs ms gp r c As (M0 b) [] := by
  refine (HSO2.out _).past ho3 (fun q hq => ⟨by simp [hq], fun hm => ?_⟩) (xB6 H2.out.2.2.1)
  have h1 := hFu q hq
  have := hh.2.1
  omega
 rw [H2.out.2.2.2] at hj3
 have hj3' : JX w0 w3 g gj (DM.up (J0 n b).b n (J0 n b).f (J0 n b).s (J0 n b).l) n (J0 n b).gen (J0 n b).st (J0 n b).txs (J0 n b).u F3 A3 c3 (.slice none 0 0) [] := by
  have e : (0 : Nat) + pn (putM (M0 b)) + 6 = pn (putM (M0 b)) + 6 := by omega
  rw [e] at hj3
  exact hj3
 have hms : ms < w1.heap.size := (HSO.out []).st.map.lt
 have hs12 := HS12.out
 have hjso : JSo w0 w3 n ⟨w3.heap.size, g, gj, A3, c3, .slice none 0 0, [], F3, gs, ms, gp, r, c, As, [], jf gj (.slice none 0 0) F3 ++ (ms :: F)⟩ (J0 n b) (M0 b) := by
  have hw0w := HB.out.size
  refine ⟨hj3', hso3, fun q hq => ?_, by show w0.heap.size <= gs; omega, fun q hq => ⟨by simp [hq], fun hm => ?_⟩, by simp, fun z hz => ?_⟩
  ·rcases kQ hq with rfl | hq
   ·have := hh.2.1; omega
   ·have h3 := hh.2.2.1
    have h4 := hh.2.2.2.1
    rcases x1X hq with h5 | ⟨_, h5⟩
    ·have h6 : q = gp := h5
     omega
    ·have h6 : q = r := h5
     omega
  ·have hm' : q = ms := hm
   have h2 := hh.2.1
   rcases hjm q hq with h1 | h1
   ·have := hFu q h1; omega
   ·omega
  ·rcases mem_append.1 hz with hz | hz
   ·exact hj3'.under z hz
   ·rcases kQ hz with rfl | hz
    ·exact hso3.st.map.lt
    ·exact kL (hFu z hz) (kT hs2 ho3.size)
 have HJ := kH hjso
 have HJM := kH hjm
 have HO3 := kH ho3
 clear hjso hjm ho3 hso3 hj3 hj3' hf3 hgj3 HF hh hFu
 go_wp2
 go_ret2
 have hbel := x05 w3 (.cells (poolC gj gs false) 113)
 have hon : Only F w w3 := (kO H2.out.1 _).trans HO3.out (kF _ _)
 refine ⟨⟨w3.heap.size, g, gj, A3, c3, .slice none 0 0, [], F3, gs, ms, gp, r, c, As, [], jf gj (.slice none 0 0) F3 ++ (ms :: F)⟩, rfl, rfl, ⟨HJ.out.below hbel, kW _ _ _, ?_, JFine.format hn8 (by omega) (by rw [hpn]; unfold areaOf; omega) HSM.out (by rw [x3E]; omega), ⟨rfl, ?_, kR _, kY _, kY _⟩, inv0 (by omega), invA0 b, by simpa [M0] using hbl, hn, fun p hp => (by cases hp), ⟨List.Pairwise.nil, fun p hp => (by cases hp)⟩⟩, hon.alloc _, fun q hq => ?_⟩
 ·have := HJ.out.jx.bel.size
  exact this
 ·show pn (putM (M0 b)) + 6 <= 400 * (0 + 1)
  omega
 ·unfold pfoot at hq
  rw [mem_cons, mem_append] at hq
  rcases hq with rfl | hq | hq
  ·exact .inr hon.size
  ·refine .inr ?_
   have hh := HG.out
   rcases kQ hq with rfl | hq
   ·exact hh.2.1
   ·rcases x1X hq with rfl | ⟨_, rfl⟩
    ·exact hh.2.2.1
    ·exact hh.2.2.2.1
  ·rcases HJM.out q hq with h1 | h1
   ·exact .inl h1
   ·exact .inr (kT H2.out.1.size h1)
end
section
theorem xIL (cl : Int) : blB cl ≠ [] := by unfold blB; simp
inductive PBl (n : Nat) (J : JS) (M : Mod) (cl : Int) : JS -> Mod -> Nat -> Prop
 | bad : isClientB cl = false -> PBl n J M cl J M 1
 | full : isClientB cl = true -> (noteJ n J (putM M) (blB cl)).2 ≠ 0 -> PBl n J M cl (noteJ n J (putM M) (blB cl)).1 M (noteJ n J (putM M) (blB cl)).2
 | done : isClientB cl = true -> (noteJ n J (putM M) (blB cl)).2 = 0 -> PBl n J M cl (noteJ n J (putM M) (blB cl)).1 {M with bl := blockAt M.bl cl} 0
def PBlTo (w0 w : World) (n : Nat) (x : PX) (J : JS) (k : Nat) (M : Mod) (cl : Int) (e : Ending) (w' : World) : Prop :=
  ∃ x' J' M' kk, PBl n J M cl J' M' kk /\ e = .returned (.tuple #[.slice none 0 0, errV kk]) /\ PAt w0 w' n x' J' (k + 1) M' /\ x'.gq = x.gq /\ x'.g = x.g /\ Only (pfoot x M) w w' /\ Fresh w (pfoot x M) (pfoot x' M') /\ ∀ z ∈ x.Z, z ∈ x'.Z
section
variable {w0 w : World} {n k : Nat} {x : PX} {J : JS} {M : Mod}
theorem xQ4 (h : PAt w0 w n x J k M) (hT : Tab w0) (hw0 : 0 < w0.heap.size) (hk : k <= 40) (cl : Int) :
  Calls prog 62 #[.pointer (some ⟨x.gq, 0, none⟩), .agg (chC 2 [] none 0 0 cl)] w (PBlTo w0 w n x J k M cl) := by
 obtain ⟨w1, hw1⟩ := kX (w.alloc (.cells (chC 2 [] none 0 0 cl) 128))
 have hb1 : Below w.heap.size w w1 := by rw [hw1]; exact x05 _ _
 have K1 : Blk w1 w.heap.size 128 (chC 2 [] none 0 0 cl) := by rw [hw1]; exact kW _ _ _
 have hp1 := h.pb.below hb1 h.pb.lt
 have q2 : w1.cell? ⟨x.gq, 2, none⟩ = some (.bool false) := hp1.cell 2
 have HLA := kH (xLK (w := w1) cl)
 have HH := kH h
 have HW1 := kH hw1
 have HB1 := kH hb1
 have HK1 := kH K1
 have HP1 := kH hp1
 clear hw1 hb1 h hp1
 go_enter func62, ntmps62
 go_wp2_with (first | rw [<- HW1.out] | (refine x15 rfl (.tmp 3) rfl w.heap.size rfl (chC 2 [] none 0 0 cl) rfl HK1.out ?_))
 refine HLA.out.mono ?_
 rintro e w2 ⟨rfl, hb2⟩
 have hb02 : Below w.heap.size w w2 := HB1.out.trans (hb2.mono HB1.out.size)
 have hp2 := HH.out.pb.below hb02 HH.out.pb.lt
 have hk2 := HK1.out.below hb2 K1.lt
 have q1 : w2.cell? ⟨x.gq, 1, none⟩ = some (.pointer (some ⟨x.gs, 0, none⟩)) := hp2.cell 1
 have HB2 := kH hb02
 have HK2 := kH hk2
 have hj2 := HH.out.js.below hb02
 have HJ2 := kH hj2
 have HCP := kH (x9S hj2.so)
 clear hb2 hb02 hp2 hk2 hj2 K1 HLA
 go_wp2_with fail
 refine HCP.out.mono ?_
 rintro e w3 ⟨gs, ms, gp, r, c, A3, rfl, hso3, hg3, hn3, hb3⟩
 have hk3 := HK2.out.below hb3 HK2.out.lt
 have hb03 : Below w.heap.size w w3 := HB2.out.trans (hb3.mono HB2.out.size)
 have hzu3 : ∀ z ∈ ms :: x.Z, z < w3.heap.size := fun z hz => by
  rcases kQ hz with rfl | hz
  ·exact hso3.st.map.lt
  ·exact kL (HJ2.out.zu z hz) hb3.size
 have HCD := kH (xQ3 hso3.st cl)
 have HK3 := kH hk3
 have H3 := kH (kA hso3 (kA hg3 (kA hn3 (kA hb3 hzu3))))
 clear hk3 hb03 hzu3 hso3 hg3 hn3 hb3 HCP q1 q2
 go_wp2_with (refine x15 rfl (.tmp 3) rfl w.heap.size rfl (chC 2 [] none 0 0 cl) rfl HK3.out ?_)
 refine HCD.out.mono ?_
 rintro e w5 ⟨w4, hb4, rfl, hst5, hon5⟩
 obtain ⟨M', hM'⟩ : ∃ M' : Mod, M' = {M with bl := blockAt M.bl cl} := ⟨_, rfl⟩
 have i1 : Inv (16 * k) M' := by rw [hM']; exact HH.out.inv.block cl
 have i2 : M'.fl.length = M.fl.length := by rw [hM']
 have hso4 := H3.out.1.below hb4
 have hso5 : StoreAt w5 (ms :: x.Z) gs ms gp r c A3 M' x.kv := by
  rw [hM']
  exact ⟨hst5, x6Y hso4.obs hon5 (fun q hq => by
   simp at hq
   subst hq
   exact ⟨_, _, hso4.st.blk, by decide, by decide, by decide⟩)⟩
 have hb34 : Below w2.heap.size w2 w4 := H3.out.2.2.2.1.trans (hb4.mono H3.out.2.2.2.1.size)
 have hb25 : Below w2.heap.size w2 w5 := hb34.trans (hon5.below (B := w2.heap.size) (fun q hq => by simp at hq; subst hq; exact H3.out.2.1) hb34.size)
 have hb05 : Below w.heap.size w w5 := HB2.out.trans (hb25.mono HB2.out.size)
 have hs24 : w.heap.size <= w4.heap.size := kT HB2.out.size hb34.size
 have HB5 := kH hb05
 have HS24 := kH hs24
 have HM' := kH hM'
 have hk5 : Blk w5 w.heap.size 128 (chC 2 [] none 0 0 cl) := HK2.out.below hb25 HK2.out.lt
 have HK5 := kH hk5
 have hp5 := HH.out.pb.below hb05 HH.out.pb.lt
 have HP5 := kH hp5
 have hnew : JSo w0 w5 n {x with gs := gs, ms := ms, gp := gp, r := r, cs := c, As := A3, Z := ms :: x.Z} J M' := HJ2.out.swap hb25 hso5 (fun z hz => by simp [hz]) (by simp) (fun z hz => kL (H3.out.2.2.2.2 z hz) (kT hb4.size hon5.size)) (fun q hq => H3.out.2.2.1 q (by rw [x22 i2] at hq; exact hq)) H3.out.2.1
 have HNEW := kH hnew
 have HI := kH (kA i1 i2)
 have HN3 := kH (kA H3.out.2.2.1 H3.out.2.1)
 clear hb34 hb25 hb05 hs24 hso4 hso5 hst5 hon5 hb4 hk5 hp5 hnew i1 i2 hM' H3 HCD
 cases hcl : isClientB cl with
 | false =>
  have hbn : blockN cl = 1 := by unfold blockN; rw [hcl]; rfl
  have hfin : PBlTo w0 w n x J k M cl (.returned (.tuple #[.slice none 0 0, errV 1])) w5 :=
   ⟨x, J, M, 1, .bad hcl, rfl, (HH.out.below HB5.out).more (by omega), rfl, rfl, kO HB5.out _, kF _ _, fun z hz => hz⟩
  have HFIN := kH hfin
  rw [hbn]
  clear hfin hbn
  simp only [errV] at HFIN ⊢
  go_wp2
  go_ret2
  exact HFIN.out
 | true =>
  have hbn : blockN cl = 0 := by unfold blockN; rw [hcl]; rfl
  have HCL := kH hcl
  rw [hbn]
  clear hbn hcl
  simp only [errV]
  have HTX := kH (xPG (w := w5) cl)
  go_wp2_with (refine x15 rfl (.tmp 3) rfl w.heap.size rfl (chC 2 [] none 0 0 cl) rfl HK5.out ?_)
  refine HTX.out.mono ?_
  rintro e w6 ⟨v6, rfl, ho6, hb6⟩
  obtain ⟨A6, c6, rfl⟩ := x0H ho6
  obtain ⟨hc6, hcm6⟩ := x5K ho6
  have hb06 : Below w.heap.size w w6 := HB5.out.trans (hb6.mono HB5.out.size)
  have hp6 := HH.out.pb.below hb06 HH.out.pb.lt
  have hopl : 0 < (blB cl).length := length_pos_iff.2 (xIL cl)
  have hsmall : Small (blB cl) := xKN cl
  have hblk : ∀ q ∈ blkOf A6, q < w6.heap.size /\ q ∉ jf x.gj x.vt x.F := fun q hq => by
   have h1 := x4I ho6 hopl q hq
   refine ⟨h1.2, fun hm => ?_⟩
   have h2 := HH.out.js.jx.under q hm
   have := HB5.out.size
   omega
  have HNT := kH (xCU (HH.out.js.below hb06) hp6 HH.out.fine HH.out.sm (by omega) HH.out.n5 HH.out.inv (by omega) (HH.out.put hk) A6 c6 (blB cl) (ho6.bytes hsmall) (by rw [xPR]; omega) hc6 hcm6 (xIL cl) hT hw0 hblk)
  have HB6 := kH (kA hb06 hb6)
  have HP6 := kH hp6
  clear ho6 hc6 hcm6 hb06 hb6 hp6 hopl hsmall hblk HTX
  go_wp2_with fail
  refine HNT.out.mono ?_
  rintro e w7 ⟨rfl, F7, A7, c7, vt7, us7, hj7, ho7, hf7, hfi7⟩
  have hp7 : Blk w7 x.gq 113 (poolC x.gj x.gs false) := HP6.out.of (ho7.block _ HP6.out.lt (x1J HP6.out ((HH.out.js.below HB6.out.1).jx.odd (by decide) (by decide) (by decide) (by decide))))
  have HP7 := kH hp7
  have H7 := kH (kA hj7 (kA ho7 (kA hf7 hfi7)))
  have hsm7 := xG3 (st := putM M) (tx := blB cl) HH.out.n5 HH.out.sm
  have hne7 := xCT (n := n) (st := putM M) (tx := blB cl) HH.out.sm.b
  have HSM7 := kH hsm7
  have hju : ∀ q ∈ jf x.gj x.vt x.F, q < w.heap.size := HH.out.js.jx.under
  have HJU := kH hju
  have hon07 : Only (pfoot x M) w w7 := (kO HB6.out.1 _).trans (ho7.mono (G := pfoot x M) (fun q hq => kM _ (mem_append_right _ hq))) (kF _ _)
  have HON := kH hon07
  clear hj7 ho7 hf7 hfi7 hp7 hsm7 hju hon07 HNT
  rcases hne7 with he | he
  ·have hpd : PBl n J M cl (noteJ n J (putM M) (blB cl)).1 M' 0 := HM'.out ▸ .done HCL.out he
   have HPD := kH hpd
   rw [he]
   clear hpd he
   simp only [errV]
   generalize noteJ n J (putM M) (blB cl) = NJ at *
   obtain ⟨J', ej⟩ := NJ
   dsimp only at *
   go_wp2_with (refine x0I rfl 36 _ _ rfl x.gq 1 113 (poolC x.gj x.gs false) (.pointer (some ⟨gs, 0, none⟩)) rfl rfl HP7.out (by simp [poolC]) (by kernel_rfl) rfl ?_; intro w8 K8 o8 s8)
   go_ret2
   have hh := HH.out
   have hn6 := HNEW.out.below HB6.out.2
   have hn7 := hn6.noted H7.out.1 H7.out.2.1 H7.out.2.2.1
   have hn8 := hn7.set (gq := x.gq) HP7.out hh.gqN o8
   refine ⟨_, J', M', 0, HPD.out, rfl, ⟨hn8, K8, hh.gqN, H7.out.2.2.2, HSM7.out, HI.out.1.mono (by omega), (HM'.out ▸ hh.ia.block cl : InvA (16 * k) M').mono (by omega), by rw [HI.out.2]; exact hh.fl, hh.n5, (by rw [HM'.out]; exact hh.nn), (by rw [HM'.out]; exact hh.rs)⟩, rfl, rfl, ?_, ?_, fun z hz => mem_append_right _ (kM _ hz)⟩
   ·refine HON.out.trans (o8.mono (G := pfoot x M) (fun q hq => ?_)) (kF _ _)
    simp at hq
    subst hq
    exact mem_cons_self
   ·intro q hq
    unfold pfoot at hq ⊢
    rw [mem_cons, mem_append] at hq
    rcases hq with rfl | hq | hq
    ·exact .inl mem_cons_self
    ·have h1 : w2.heap.size <= q := HN3.out.1 q (by rw [x22 HI.out.2] at hq; exact hq)
     exact .inr (kT HB2.out.size h1)
    ·rcases H7.out.2.2.1 q hq with h1 | h1
     ·exact .inl (kM _ (mem_append_right _ h1))
     ·exact .inr (kT HB6.out.1.size h1)
  ·have hpd : PBl n J M cl (noteJ n J (putM M) (blB cl)).1 M 4 := he ▸ .full HCL.out (by rw [he]; omega)
   have HPD := kH hpd
   have HID := isdown4 w7
   rw [he]
   clear hpd he
   simp only [errV] at HID ⊢
   have HID := kH HID
   generalize noteJ n J (putM M) (blB cl) = NJ at *
   obtain ⟨J', ej⟩ := NJ
   dsimp only at *
   go_wp2_with fail
   refine HID.out.mono ?_
   rintro e w' ⟨rfl, rfl⟩
   go_wp2_with (refine x0I rfl 4 _ _ rfl x.gq 2 113 (poolC x.gj x.gs false) (.bool false) rfl rfl HP7.out (by simp [poolC]) (by kernel_rfl) rfl ?_; intro w8 K8 o8 s8)
   go_ret2
   have hh := HH.out
   have hn6 := hh.js.below HB6.out.1
   have hn7 := hn6.noted H7.out.1 H7.out.2.1 H7.out.2.2.1
   have hn8 := hn7.set (gq := x.gq) HP7.out hh.gqN o8
   refine ⟨_, J', M, 4, HPD.out, rfl, ⟨hn8, K8, hh.gqN, H7.out.2.2.2, HSM7.out, hh.inv.mono (by omega), hh.ia.mono (by omega), hh.fl, hh.n5, hh.nn, hh.rs⟩, rfl, rfl, ?_, ?_, fun z hz => mem_append_right _ hz⟩
   ·refine HON.out.trans (o8.mono (G := pfoot x M) (fun q hq => ?_)) (kF _ _)
    simp at hq
    subst hq
    exact mem_cons_self
   ·intro q hq
    unfold pfoot at hq ⊢
    rw [mem_cons, mem_append] at hq
    rcases hq with rfl | hq | hq
    ·exact .inl mem_cons_self
    ·exact .inl (kM _ (mem_append_left _ hq))
    ·rcases H7.out.2.2.1 q hq with h1 | h1
     ·exact .inl (kM _ (mem_append_right _ h1))
     ·exact .inr (kT HB6.out.1.size h1)
theorem x9K (h : PAt w0 w n x J k M) (hT : Tab w0) (hw0 : 0 < w0.heap.size) (hk : k <= 40) (cl : Int) :
  Calls prog 18 #[.pointer (some ⟨x.gq, 0, none⟩), .int .i64 cl] w fun e w' => ∃ x' J' M' kk, PBl n J M cl J' M' kk /\ e = .returned (errV kk) /\ PAt w0 w' n x' J' (k + 1) M' /\ x'.gq = x.gq /\ x'.g = x.g /\ Only (pfoot x M) w w' /\ Fresh w (pfoot x M) (pfoot x' M') /\ (∀ z ∈ x.Z, z ∈ x'.Z) := by
 have HD := kH (xQ4 h hT hw0 hk cl)
 have hbd : ∀ w, (Instr.build 128 #[(0, .int .u8 2), (3, .int .i64 cl)]).run prog w = .ok (.agg (chC 2 [] none 0 0 cl)) w := fun w => by kernel_rfl
 clear h
 go_enter func18, ntmps18
 go_wp2_with fail
 refine HD.out.mono ?_
 rintro e w' ⟨x', J', M', kk, h1, rfl, h2⟩
 have HF := kH (kA h1 h2)
 clear h1 h2 hbd
 generalize hev : errV kk = ev
 have HEV := kH hev
 clear hev
 go_wp2
 go_ret
 exact ⟨x', J', M', kk, HF.out.1, by rw [HEV.out]; rfl, HF.out.2⟩
end
end
structure PV where
 kd : Int
 n : Int
 nm : LN
 A : OA
 c : Nat
 l : List SV
 K : OA
 kn : Nat
 kc : Nat
def PV.cs (o : PV) : List Value := [.int .i64 o.kd, .int .i64 o.n, .string (strOf o.nm), .slice o.A o.l.length o.c, .slice o.K o.kn o.kc]
theorem PV.cs_len (o : PV) : o.cs.length = 5 := rfl
structure PV.Ok (o : PV) (W : World) : Prop where
 cap : o.l.length <= o.c
 capm : o.c <= 9223372036854775807
 steps : StepsW W o.A o.l
 nm : Small o.nm
 nml : o.nm.length <= 9223372036854775807
 kl : o.kn <= 9223372036854775807
theorem PV.Ok.since {W' : World} {o : PV} (h : o.Ok W) (hb : Below W.heap.size W W') : o.Ok W' := ⟨h.cap, h.capm, h.steps.since hb, h.nm, h.nml, h.kl⟩
structure PVs (W : World) (A : OA) (os : List PV) : Prop where
 row : Reads W W.heap.size 5 A os.length (os.flatMap PV.cs)
 ok : ∀ o ∈ os, o.Ok W
theorem PVs.since {W' : World} {os : List PV} (h : PVs W A os) (hb : Below W.heap.size W W') : PVs W' A os := ⟨(h.row.since hb).more hb.size, fun o ho => (h.ok o ho).since hb⟩
theorem PVs.get {os : List PV} (h : PVs W A os) {o : PV} (hk : os[k]? = some o) : ∃ ad, A = some ad /\ ad.block < W.heap.size /\ ∀ j v, o.cs[j]? = some v -> W.cell? ((ad.add (k * 5)).add j) = some v := by
 have hl := (List.getElem?_eq_some_iff.1 hk).1
 obtain ⟨ad, e, hb, hc⟩ := h.row.2 (by omega)
 refine ⟨ad, e, hb, fun j v hj => ?_⟩
 rw [x1Q]
 have hj5 : j < 5 := by have := (List.getElem?_eq_some_iff.1 hj).1; rwa [PV.cs_len] at this
 exact hc _ v (by rw [x1K PV.cs 5 PV.cs_len os k j o hk hj5]; exact hj)
theorem xAZ (w : World) (p : Addr) (s : PV) (hc : ∀ j v, s.cs[j]? = some v -> w.cell? (p.add j) = some v) : (loadVar 41 p).run prog w = .ok (.agg s.cs.toArray) w := by
 have hl : (loadCells p 5).run prog w = .ok s.cs.toArray w := run_loadCells_list (P := prog) w p s.cs hc
 have hagg : (isAgg 41).run prog w = .ok true w := by
  unfold isAgg
  rw [Sem.run_bind, run_underlying underlying41 w]
  rfl
 have hi : (prog.info? 41).map (·.size) = some 5 := by kernel_rfl
 cases hq : prog.info? 41 with
 | none => simp [hq] at hi
 | some i =>
  have hs : i.size = 5 := by simpa [hq] using hi
  simp [loadVar, Sem.run_bind, hagg, sizeOf, typeInfo, hq, hs, hl]
theorem x1B {rest : List Oper} {op : Oper} (hgd : op.guard = none) (x : Operand) (ho : op.op = .load 41 x)
 (p : Addr) (hx : a.eval x = .pointer (some p)) (s : PV) (hc : ∀ j v, s.cs[j]? = some v -> w.cell? (p.add j) = some v)
  (h : wpList prog ops Q rest (a.put op.dst (.agg #[.int .i64 s.kd, .int .i64 s.n, .string (strOf s.nm), .slice s.A s.l.length s.c, .slice s.K s.kn s.kc])) w) : wpList prog ops Q (op :: rest) a w :=
 wpList_plain hgd fun _ hK => by
  unfold Oper.wp execOp
  simp only [ho, hx, Instr.loadAt, Instr.sureAddr, Sem.run_bind, Sem.run_pure, kS, xAZ w p s hc]
  exact hK _ _ h
def PvB (o : PV) : Prop := o.l.length <= 20 /\ o.nm.length <= 100 /\ ∀ s ∈ o.l, StepB s
theorem xGW {os : List PV} (hR : PVs w A os) (hcp : os.length <= c) (hn : os.length <= 9223372036854775807) :
  Calls prog 11 #[.slice A os.length c] w fun e w' => (e = .returned (.bool true) ∨ (e = .returned (.bool false) /\ os.length <= 25 /\ ∀ o ∈ os, PvB o)) /\ Below w.heap.size w w' := by
 have HR := kH hR
 clear hR
 go_enter func11, ntmps11
 go_wp2
 go_loopw [9] (fun i wr => ∃ k : Nat, k <= os.length /\ k <= 25 /\ i = .int .i64 k /\ Below w.heap.size w wr /\ ∀ (j : Nat) (o : PV), j < k -> os[j]? = some o -> PvB o) (fun i _ => os.length - (intS i).toNat)
 case atStart => exact ⟨0, by omega, by omega, rfl, kB _ _, fun j o h => by omega⟩
 case round =>
  obtain ⟨k, hk, hk61, rfl, hb, hall⟩ := hrel
  have HB := kH (kA hb hall)
  have hwk := wK k (by omega)
  by_cases hlt : k < os.length
  ·obtain ⟨o, ho⟩ : ∃ o, os[k]? = some o := ⟨_, List.getElem?_eq_getElem hlt⟩
   obtain ⟨ad, rfl, hl, hc⟩ := (HR.out.since hb).get ho
   have hok := (HR.out.since hb).ok o (mem_of_getElem? ho)
   have HO := kH (kA ho hok)
   have hss := x2L o.nm
   have hc1 := hok.cap
   have hc2 := hok.capm
   have hc3 := hok.nml
   have hc4 := hok.kl
   clear hb hall ho hok
   by_cases h60 : (24 : Int) < (k : Int)
   ·have hd : decide ((24 : Int) < (k : Int)) = true := decide_eq_true h60
    go_wp2_with (have _h := hc; refine x1B rfl (.tmp 12) rfl _ rfl o hc ?_; clear _h hc)
    go_ret
    exact ⟨.inl rfl, HB.out.1.alloc HB.out.1.size _⟩
   ·have hd : decide ((24 : Int) < (k : Int)) = false := decide_eq_false h60
    by_cases h20 : (20 : Int) < (o.l.length : Int)
    ·have hd2 : decide ((20 : Int) < (o.l.length : Int)) = true := decide_eq_true h20
     go_wp2_with (have _h := hc; refine x1B rfl (.tmp 12) rfl _ rfl o hc ?_; clear _h hc)
     go_ret
     exact ⟨.inl rfl, HB.out.1.alloc HB.out.1.size _⟩
    ·have hd2 : decide ((20 : Int) < (o.l.length : Int)) = false := decide_eq_false h20
     by_cases h100 : (100 : Int) < (o.nm.length : Int)
     ·have hd3 : decide ((100 : Int) < (o.nm.length : Int)) = true := decide_eq_true h100
      go_wp2_with (have _h := hc; refine x1B rfl (.tmp 12) rfl _ rfl o hc ?_; clear _h hc)
      go_ret
      exact ⟨.inl rfl, HB.out.1.alloc HB.out.1.size _⟩
     ·have hd3 : decide ((100 : Int) < (o.nm.length : Int)) = false := decide_eq_false h100
      by_cases hkp : (100 : Int) < (o.kn : Int)
      ·have hdk : decide ((100 : Int) < (o.kn : Int)) = true := decide_eq_true hkp
       go_wp2_with (have _h := hc; refine x1B rfl (.tmp 12) rfl _ rfl o hc ?_; clear _h hc)
       go_ret
       exact ⟨.inl rfl, HB.out.1.alloc HB.out.1.size _⟩
      ·have hdk : decide ((100 : Int) < (o.kn : Int)) = false := decide_eq_false hkp
       have HB1 : Hid (∀ cs t, Below w.heap.size w (wr.alloc (.cells cs t))) := kH fun cs t => HB.out.1.alloc HB.out.1.size _
       obtain ⟨wo, hwo⟩ := kX wr
       subst hwo
       go_wp2_with (have _h := hc; refine x1B rfl (.tmp 12) rfl _ rfl o hc ?_; clear _h hc)
       go_loopw [37] (fun i wr => ∃ q : Nat, q <= o.l.length /\ i = .int .i64 q /\ Below w.heap.size w wr /\ ∀ (j : Nat) (s : SV), j < q -> o.l[j]? = some s -> StepB s) (fun i _ => o.l.length - (intS i).toNat)
       case atStart => exact ⟨0, by omega, rfl, HB1.out _ _, fun j s h => by omega⟩
       case round =>
        obtain ⟨q, hq, rfl, hb, hall⟩ := hrel
        have HBI := kH (kA hb hall)
        have hwq := wK q (by omega)
        by_cases hlq : q < o.l.length
        ·obtain ⟨s, hs⟩ : ∃ s, o.l[q]? = some s := ⟨_, List.getElem?_eq_getElem hlq⟩
         have hstp : StepsW wr o.A o.l := ((HR.out.since hb).ok o (mem_of_getElem? HO.out.1)).steps
         have hsr := hstp.els s (mem_of_getElem? hs)
         obtain ⟨ad2, hA2, hl2, hc5⟩ := flat5 hstp.row hs
         have HS := kH hs
         have hsz := x2L s.x.nm
         have hx1 := hsr.dl
         have hx2 := hsr.nl
         generalize o.A = oA at *
         subst hA2
         clear hb hall hs hstp hsr
         by_cases hbd : (1500 : Int) < (s.x.dt.length : Int)
         ·have hd4 : decide ((1500 : Int) < (s.x.dt.length : Int)) = true := decide_eq_true hbd
          go_wp2_with (have _h := hc5; refine x0S rfl (.tmp 39) rfl _ rfl s hc5 ?_; clear _h hc5)
          go_ret
          exact ⟨.inl rfl, HBI.out.1.alloc HBI.out.1.size _⟩
         ·have hd4 : decide ((1500 : Int) < (s.x.dt.length : Int)) = false := decide_eq_false hbd
          by_cases hbn : (100 : Int) < (s.x.nm.length : Int)
          ·have hd5 : decide ((100 : Int) < (s.x.nm.length : Int)) = true := decide_eq_true hbn
           go_wp2_with (have _h := hc5; refine x0S rfl (.tmp 39) rfl _ rfl s hc5 ?_; clear _h hc5)
           go_ret
           exact ⟨.inl rfl, HBI.out.1.alloc HBI.out.1.size _⟩
          ·have hd5 : decide ((100 : Int) < (s.x.nm.length : Int)) = false := decide_eq_false hbn
           by_cases hba : (1500 : Int) < s.x.at_
           ·have hd6 : decide ((1500 : Int) < s.x.at_) = true := decide_eq_true hba
            by_cases hbb : s.x.at_ <= 65536
            ·have hd7 : decide (s.x.at_ <= 65536) = true := decide_eq_true hbb
             go_wp2_with (have _h := hc5; refine x0S rfl (.tmp 39) rfl _ rfl s hc5 ?_; clear _h hc5)
             go_ret
             exact ⟨.inl rfl, HBI.out.1.alloc HBI.out.1.size _⟩
            ·have hd7 : decide (s.x.at_ <= 65536) = false := decide_eq_false hbb
             go_wp2_with (have _h := hc5; refine x0S rfl (.tmp 39) rfl _ rfl s hc5 ?_; clear _h hc5)
             go_roundw
             case rel =>
              refine ⟨q + 1, by omega, by go_num, HBI.out.1.alloc HBI.out.1.size _, fun j s' hj hs' => ?_⟩
              by_cases hjq : j = q
              ·subst hjq
               rw [HS.out] at hs'
               injection hs' with hs'
               subst hs'
               exact ⟨by omega, by omega⟩
              ·exact HBI.out.2 j s' (by omega) hs'
             case measure => simp [intS]; omega
           ·have hd6 : decide ((1500 : Int) < s.x.at_) = false := decide_eq_false hba
            go_wp2_with (have _h := hc5; refine x0S rfl (.tmp 39) rfl _ rfl s hc5 ?_; clear _h hc5)
            go_roundw
            case rel =>
             refine ⟨q + 1, by omega, by go_num, HBI.out.1.alloc HBI.out.1.size _, fun j s' hj hs' => ?_⟩
             by_cases hjq : j = q
             ·subst hjq
              rw [HS.out] at hs'
              injection hs' with hs'
              subst hs'
              exact ⟨by omega, by omega⟩
             ·exact HBI.out.2 j s' (by omega) hs'
            case measure => simp [intS]; omega
        ·obtain rfl : q = o.l.length := by omega
         clear hb hall
         go_wp2
         go_roundw
         case rel =>
          refine ⟨k + 1, by omega, by omega, by go_num, HBI.out.1, fun j o' hj ho' => ?_⟩
          by_cases hjk : j = k
          ·subst hjk
           rw [HO.out.1] at ho'
           injection ho' with ho'
           subst ho'
           exact ⟨by omega, by omega, fun s hs => by
            obtain ⟨j, hj⟩ := List.mem_iff_getElem?.1 hs
            exact HBI.out.2 j s (List.getElem?_eq_some_iff.1 hj).1 hj⟩
          ·exact HB.out.2 j o' (by omega) ho'
         case measure => simp [intS]; omega
  ·obtain rfl : k = os.length := by omega
   go_wp2
   go_ret
   exact ⟨.inr ⟨rfl, hk61, fun o ho => by
    obtain ⟨j, hj⟩ := List.mem_iff_getElem?.1 ho
    exact HB.out.2 j o (List.getElem?_eq_some_iff.1 hj).1 hj⟩, HB.out.1⟩
theorem StoreAt.apart (h : StoreAt w Z gs ms gp r c A M kv) (ho : Only G w w') (hZ : ∀ k ∈ G, k ∈ Z /\ k ≠ ms /\ k ∉ foot gp r M.fl) (hO : ∀ k ∈ G, Odd w 122 k /\ Odd w 137 k /\ Odd w 5 k /\ Odd w 198 k) : StoreAt w' Z gs ms gp r c A M kv := by
 refine ⟨h.st.off ho (fun k hk => ⟨fun e => (hO k hk).1 _ (e ▸ h.st.blk), (hZ k hk).2.1, (hZ k hk).2.2⟩), h.obs.imp fun p q hr => ⟨hr.1, ?_⟩⟩
 obtain ⟨go, mb, c1, ce, D, E, kv1, e, hmb, hat⟩ := hr.2
 exact ⟨go, mb, c1, ce, D, E, kv1, e, hmb, hat.only ho (fun k hk _ => ⟨(hO k hk).2.1, (hO k hk).2.2.1, (hO k hk).2.2.2⟩) (fun hm => hmb (hZ _ hm).1)⟩
theorem PAt.lt {x : PX} {J : JS} (h : PAt w0 w n x J k M) : ∀ q ∈ pfoot x M, q < w.heap.size := fun q hq => by
 unfold pfoot at hq
 rw [mem_cons, mem_append] at hq
 rcases hq with rfl | hq | hq
 ·exact h.pb.lt
 ·rcases h.js.so.kinds hq with rfl | ⟨cs, _, hB⟩ | ⟨cs, _, _, hB⟩
  ·exact h.js.so.st.map.lt
  ·exact hB.lt
  ·exact hB.lt
 ·exact h.js.jx.under q hq
structure Twin (w0 w : World) (n : Nat) (x y : PX) (J J' : JS) (k k' : Nat) (M M' : Mod) : Prop where
 p : PAt w0 w n x J k M
 q : PAt w0 w n y J' k' M'
 sep : ∀ z ∈ pfoot x M, z ∉ pfoot y M'
 xy : ∀ z ∈ pfoot x M, z ∈ y.Z
 yx : ∀ z ∈ pfoot y M', z ∈ x.Z
theorem Twin.symm {x y : PX} {J J' : JS} (h : Twin w0 w n x y J J' k k' M M') : Twin w0 w n y x J' J k' k M' M := ⟨h.q, h.p, fun z hz hm => h.sep z hm hz, h.yx, h.xy⟩
theorem Twin.below {x y : PX} {J J' : JS} (h : Twin w0 w n x y J J' k k' M M') (hb : Below w.heap.size w w') : Twin w0 w' n x y J J' k k' M M' := ⟨h.p.below hb, h.q.below hb, h.sep, h.xy, h.yx⟩
theorem Twin.step {x x' y : PX} {J J1 J' : JS} (h : Twin w0 w n x y J J' k k' M M') (hp : PAt w0 w' n x' J1 k1 M1) (ho : Only (pfoot x M) w w') (hf : Fresh w (pfoot x M) (pfoot x' M1)) (hZ : ∀ z ∈ x.Z, z ∈ x'.Z) : Twin w0 w' n x' {y with Z := pfoot x' M1 ++ y.Z} J1 J' k1 k' M1 M' := by
 have hq := h.q
 have hyl := hq.lt
 have hso : StoreAt w' (pfoot x' M1 ++ y.Z) y.gs y.ms y.gp y.r y.cs y.As M' y.kv := by
  refine (hq.js.so.wide (Z' := pfoot x' M1 ++ y.Z) (kB _ _) (fun z hz => ?_)).apart ho (fun z hz => ⟨mem_append_right _ (h.xy z hz), fun e => ?_, fun hm => ?_⟩) (fun z hz => ⟨h.p.odd (by decide) (by decide) (by decide) (by decide) (by decide) (by decide) (by decide) z hz, h.p.odd (by decide) (by decide) (by decide) (by decide) (by decide) (by decide) (by decide) z hz, h.p.odd (by decide) (by decide) (by decide) (by decide) (by decide) (by decide) (by decide) z hz, h.p.odd (by decide) (by decide) (by decide) (by decide) (by decide) (by decide) (by decide) z hz⟩)
  ·rcases mem_append.1 hz with hz | hz
   ·rcases hf z hz with h1 | h1
    ·exact .inl (h.xy z h1)
    ·exact .inr h1
   ·exact .inl hz
  ·exact h.sep z hz (by unfold pfoot; rw [e]; simp)
  ·exact h.sep z hz (by unfold pfoot; simp only [mem_cons, mem_append]; exact .inr (.inl (.inr hm)))
 have hjx := hq.js.jx.past ho (fun z hz => ⟨fun hm => h.sep z hz (by unfold pfoot; simp only [mem_cons, mem_append]; exact .inr (.inr hm)), h.p.odd (by decide) (by decide) (by decide) (by decide) (by decide) (by decide) (by decide) z hz, h.p.under z hz⟩)
 refine ⟨hp, ⟨⟨hjx, hso, hq.js.nw, hq.js.gsN, fun z hz => ⟨mem_append_right _ (hq.js.zj z hz).1, (hq.js.zj z hz).2⟩, mem_append_right _ hq.js.zm, fun z hz => ?_⟩, hq.pb.of (ho.block _ hq.pb.lt (fun hm => h.sep _ hm (by unfold pfoot; simp))), hq.gqN, hq.fine, hq.sm, hq.inv, hq.ia, hq.fl, hq.n5, hq.nn, hq.rs⟩, fun z hz hm => ?_, fun z hz => mem_append_left _ hz, fun z hz => hZ z (h.yx z hz)⟩
 ·rcases mem_append.1 hz with hz | hz
  ·exact hp.lt z hz
  ·exact kL (hq.js.zu z hz) ho.size
 ·have hm' : z ∈ pfoot y M' := hm
  rcases hf z hz with h1 | h1
  ·exact h.sep z h1 hm'
  ·have := hyl z hm'
   omega
theorem PDo.one {J J1 J2 : JS} {M2 : Mod} {k2 : Nat} {t1 t2 : List LN} (h1 : PDo n J M nm xs J1 M1 k1 t1) (h2 : PDo n J M nm xs J2 M2 k2 t2) : J1 = J2 /\ M1 = M2 /\ k1 = k2 /\ t1 = t2 := by
 cases h1 with
 | read a b =>
  cases h2 with
  | read c d => obtain ⟨e1, e2, e3⟩ := x2Z b d; exact ⟨rfl, e1, e2, e3⟩
  | bad c => rw [a] at c; cases c
  | full c => rw [a] at c; cases c
  | done c => rw [a] at c; cases c
 | bad a b c =>
  cases h2 with
  | read d => rw [a] at d; cases d
  | bad d e f => obtain ⟨e1, e2, e3⟩ := x2Z b e; exact ⟨rfl, rfl, e2, rfl⟩
  | full d e => obtain ⟨e1, e2, e3⟩ := x2Z b e; exact absurd e2 c
  | done d e => obtain ⟨e1, e2, e3⟩ := x2Z b e; exact absurd e2 c
 | full a b c =>
  cases h2 with
  | read d => rw [a] at d; cases d
  | bad d e f => obtain ⟨e1, e2, e3⟩ := x2Z b e; exact absurd e2.symm f
  | full => exact ⟨rfl, rfl, rfl, rfl⟩
  | done d e f => exact absurd f c
 | done a b c =>
  cases h2 with
  | read d => rw [a] at d; cases d
  | bad d e f => obtain ⟨e1, e2, e3⟩ := x2Z b e; exact absurd e2.symm f
  | full d e f => exact absurd c f
  | done d e => obtain ⟨e1, e2, e3⟩ := x2Z b e; exact ⟨rfl, e1, rfl, e3⟩
theorem PBl.one {J J1 J2 : JS} {M2 : Mod} {cl : Int} {k2 : Nat} (h1 : PBl n J M cl J1 M1 k1) (h2 : PBl n J M cl J2 M2 k2) : J1 = J2 /\ M1 = M2 /\ k1 = k2 := by
 cases h1 with
 | bad a =>
  cases h2 with
  | bad => exact ⟨rfl, rfl, rfl⟩
  | full c => rw [a] at c; cases c
  | done c => rw [a] at c; cases c
 | full a b =>
  cases h2 with
  | bad c => rw [a] at c; cases c
  | full => exact ⟨rfl, rfl, rfl⟩
  | done c d => exact absurd d b
 | done a b =>
  cases h2 with
  | bad c => rw [a] at c; cases c
  | full c d => exact absurd b d
  | done => exact ⟨rfl, rfl, rfl⟩
theorem xJE : (prog.info? 52).map (fun i => (i.zero, i.size, i.bytes)) = some (some (.agg #[.int .i64 0, .int .i64 0, .int .i64 0, .string { data := #[] }, .slice none 0 0]), 5, 64) := by kernel_rfl
structure StS (w wr : World) (base : Nat) (g : Nat) (F : LN) (rest : LN) (l : List SV) (lv : Value) (F' : LN) : Prop where
 rd : Rd wr base F' (some ⟨g, 0, none⟩) ⟨rest, false⟩
 on : Only F w wr
 fr : Fresh w F F'
 row : wr.ownsRow w.heap.size 52 5 lv l.length (l.flatMap SV.cs)
 rowF : ∀ k ∈ rowOf lv, k ∉ F'
 els : ∀ s ∈ l, Own wr w.heap.size (.slice s.D s.x.dt.length s.c) s.x.dt.length s.x.dt /\ Small s.x.dt /\ ∀ k ∈ rowOf (.slice s.D s.x.dt.length s.c), k ∉ F'
theorem StS.read {rest rest' : LN} (h : StS w wr base g F rest l lv F') (ht : RTo wr base F' (some ⟨g, 0, none⟩) ⟨rest', false⟩ w') : ∃ F'', StS w w' base g F rest' l lv F'' /\ Only F' wr w' := by
 obtain ⟨F'', h1, h2, h3⟩ := ht
 have hfar : ∀ {v : Value} {base size n : Nat} {t : TypeId} {xs : List Value}, wr.ownsRow base t size v n xs -> (∀ k ∈ rowOf v, k ∉ F') -> w'.ownsRow base t size v n xs /\ ∀ k ∈ rowOf v, k ∉ F'' := fun {v base size n t xs} hv hn => ⟨x13 hv h2 hn, fun k hk hm => by
  rcases h3 k hm with h4 | h4
  ·exact hn k hk h4
  ·have := x02 hv k hk; omega⟩
 refine ⟨F'', ⟨h1, h.on.trans h2 h.fr, h.fr.trans h3 h.on.size, (hfar h.row h.rowF).1, (hfar h.row h.rowF).2, fun s hs => ?_⟩, h2⟩
 obtain ⟨x1, x2, x3⟩ := h.els s hs
 exact ⟨(hfar x1 x3).1, x2, (hfar x1 x3).2⟩
theorem StS.below {rest : LN} (h : StS w wr base g F rest l lv F') (hb : Below wr.heap.size wr w') : StS w w' base g F rest l lv F' :=
 ⟨h.rd.below hb, h.on.trans (kO hb F') h.fr, h.fr, x06 h.row fun k hk => hb.block k (x02 h.row k hk), h.rowF, fun s hs => by
  obtain ⟨x1, x2, x3⟩ := h.els s hs
  exact ⟨x1.below hb, x2, x3⟩⟩
theorem xLJ (w : World) (s : SV) : Reads (w.alloc (.cells s.cs.toArray 52)) (w.heap.size + 1) 5 (some ⟨w.heap.size, 0, none⟩) 1 s.cs := Reads.newN w s.cs 1 5 52 (0, 0) rfl
theorem xH7 (s : SV) : ∀ u ∈ s.cs, u.oneCell' = true := fun u hu => by
 simp [SV.cs] at hu
 rcases hu with rfl | rfl | rfl | rfl | rfl <;> rfl
theorem xNL {rest : List Oper} {o : Oper} (s x : Operand)
 (hgd : o.guard = none) (ho : o.op = .call {callee := .builtin .append, args := #[s, x], argTypes := #[39, 39] })
 (base : Nat) (v : Value) (l : List SV) (hs : a.eval s = v) (hown : w.ownsRow base 52 5 v l.length (l.flatMap SV.cs))
 (B : Nat) (A : OA) (c : Nat) (y : SV) (hx : a.eval x = .slice A 1 c) (hr : Reads w B 5 A 1 y.cs)
 (hsz : l.length <= 1000000) (hbase : base <= w.heap.size)
 (h : ∀ v' w', w'.ownsRow base 52 5 v' (l ++ [y]).length ((l ++ [y]).flatMap SV.cs) -> w.grownBy w' v.ownBlock -> (v'.ownBlock = v.ownBlock ∨ v'.ownBlock = some w.heap.size) -> wpList prog ops Q rest (a.put o.dst v') w') :
  wpList prog ops Q (o :: rest) a w := by
 obtain ⟨i0, hi0, hz0, hz1, hz2⟩ := info_parts xJE
 refine x0Z w hgd s x _ ho base 52 i0 _ 5 64 underlying39 hi0 hz0 hz1 hz2 rfl (by omega) v l.length (l.flatMap SV.cs) hs hown B A 1 c y.cs hx hr (xH7 y) (by simp only [maxLen]; omega) (by omega) hbase ?_
 intro v' w' h1 h2 h3
 exact h v' w' (by rw [flatMap_append, kN]; simpa using h1) h2 h3
theorem StS.app {rest : LN} {lv' : Value} {y : SV} {b : Nat} (h : StS w wr base g F rest l lv F') (hb : w.heap.size <= b) (hy : Own wr b (.slice y.D y.x.dt.length y.c) y.x.dt.length y.x.dt) (hs : Small y.x.dt) (hn : ∀ k ∈ rowOf (.slice y.D y.x.dt.length y.c), k ∉ F')
 (h1 : w'.ownsRow w.heap.size 52 5 lv' (l ++ [y]).length ((l ++ [y]).flatMap SV.cs)) (h2 : wr.grownBy w' lv.ownBlock) (h3 : lv'.ownBlock = lv.ownBlock ∨ lv'.ownBlock = some wr.heap.size) : StS w w' base g F rest (l ++ [y]) lv' F' := by
 have ho : Only (rowOf lv) wr w' := (kU _ _).grown h2 (fun q e => .inl (x00.2 e))
 have hty : ∀ {base n : Nat} {v : Value} {bs : LN}, Own wr base v n bs -> Own w' base v n bs := fun {base n v bs} hv => x13 hv ho fun k hk hm => by
  obtain ⟨c1, b1⟩ := x0J hv (x00.1 hk)
  obtain ⟨c2, b2⟩ := x0J h.row (x00.1 hm)
  exact b1.ne_ b2 (by decide) rfl
 refine ⟨h.rd.of h2.size (fun k hk => ho.block k (h.rd.under k hk) (fun hm => h.rowF k hm hk)), ?_, h.fr, h1, fun k hk hm => ?_, fun s hs' => ?_⟩
 ·refine ⟨ho.os.trans h.on.os, ho.tape.trans h.on.tape, ho.output.trans h.on.output, kT h.on.size ho.size, fun i hi hni => (ho.block i (kL hi h.on.size) (fun hm => ?_)).trans (h.on.block i hi hni)⟩
  have := x0G h.row i hm
  omega
 ·have e := x00.1 hk
  rcases h3 with h4 | h4
  ·rw [h4] at e
   exact h.rowF k (x00.2 e) hm
  ·rw [h4] at e
   injection e with e
   have := h.rd.under k hm
   omega
 ·rcases mem_append.1 hs' with hs' | hs'
  ·obtain ⟨x1, x2, x3⟩ := h.els s hs'
   exact ⟨hty x1, x2, x3⟩
  ·simp at hs'
   subst hs'
   exact ⟨hty (x0B hy hb), hs, hn⟩
theorem StS.steps {rest : LN} {A1 : OA} (h : StS w wr base g F rest l (.slice A1 l.length c) F') (hk : ∀ s ∈ l, StepOk s.x) : StepsR wr wr.heap.size A1 l :=
 ⟨kV h.row, fun s hs => by
  obtain ⟨x1, x2, x3⟩ := h.els s hs
  have := hk s hs
  exact ⟨x1.bytes x2, this.nm.2, this.at_.1, this.at_.2, this.ln.1, this.ln.2, this.nm.1, this.dt.1⟩⟩
theorem xHR (xs : List StepV) (hx : ∀ x ∈ xs, StepOk x) (hn : xs.length <= 1000) (hlen : (xs.flatMap stepB).length <= 1000000) (h : Rd w base F (some ⟨g, 0, none⟩) ⟨numB (xs.length : Nat) ++ xs.flatMap stepB, false⟩) (hB : base <= w.heap.size) :
  Calls prog 190 #[.pointer (some ⟨g, 0, none⟩)] w fun e w' => ∃ A1 c l F', e = .returned (.slice A1 l.length c) /\ l.map SV.x = xs /\ StS w w' base g F [] l (.slice A1 l.length c) F' := by
 obtain ⟨e1, e2⟩ := x73 (xs.length : Nat) (by omega) (by omega) (xs.flatMap stepB)
 have hnum := x25 w base F (some ⟨g, 0, none⟩) _ h hB
 rw [e1, e2] at hnum
 have HN := kH hnum
 have HX := kH hx
 have HL := kH hlen
 have h0 : StS w w base g F (numB (xs.length : Nat) ++ xs.flatMap stepB) [] (.slice none 0 0) F := ⟨h, kU _ _, kF _ _, World.ownsRow_nil _ _ _ _, fun k hk => by simp [rowOf, Value.ownBlock] at hk, fun s hs => by cases hs⟩
 have H0 := kH h0
 clear hnum hx hlen h h0
 go_enter func190, ntmps190
 go_wp2_with fail
 refine HN.out.mono ?_
 rintro e w1 ⟨rfl, ht1⟩
 obtain ⟨F1, hS1, -⟩ := H0.out.read ht1
 have HS1 := kH hS1
 clear ht1 hS1
 go_wp2
 go_loopw [3, 6] (fun lv iv wr => ∃ (k : Nat) (l : List SV) (F' : LN), k <= xs.length /\ iv = .int .i64 k /\ l.map SV.x = xs.take k /\ StS w wr base g F ((xs.drop k).flatMap stepB) l lv F') (fun lv iv _ => xs.length - (intS iv).toNat)
 case atStart => exact ⟨0, [], F1, by omega, rfl, rfl, by simpa using HS1.out⟩
 case round =>
  obtain ⟨k, l, F', hk, rfl, hlx, hS⟩ := hrel
  obtain ⟨wq, hwq⟩ := kX wr
  subst hwq
  have hwk := wK k (by omega)
  obtain ⟨A1, c1, rfl⟩ := x0H hS.row
  by_cases hlt : k < xs.length
  ·obtain ⟨y, hy⟩ : ∃ y, xs[k]? = some y := ⟨_, List.getElem?_eq_getElem hlt⟩
   have hdr : xs.drop k = y :: xs.drop (k + 1) := by
    rw [drop_eq_getElem_cons hlt]
    congr 1
    rw [List.getElem?_eq_getElem hlt] at hy
    exact Option.some.inj hy
   have hok := HX.out y (mem_of_getElem? hy)
   have htk := x64 hy
   have hfl : ((xs.drop k).flatMap stepB) = numB y.kd ++ (numB y.at_ ++ (numB y.ln ++ (sttxB y.nm ++ (sttxB y.dt ++ (xs.drop (k + 1)).flatMap stepB)))) := by
    rw [hdr, flatMap_cons, xIT]
   have hpl : ((xs.drop k).flatMap stepB).length <= 1000000 := by
    have h1 := HL.out
    have h2 : xs.flatMap stepB = (xs.take k).flatMap stepB ++ (xs.drop k).flatMap stepB := by rw [<- flatMap_append, take_append_drop]
    rw [h2, kN] at h1
    omega
   obtain ⟨rest, hrest⟩ := kX ((xs.drop (k + 1)).flatMap stepB)
   rw [hfl] at hS hpl
   rw [<- hrest] at hS hpl
   simp only [kN, x04, x1F] at hpl
   have hll : l.length <= 1000 := by
    have := congrArg List.length hlx
    rw [length_map, length_take] at this
    omega
   have HK := kH (kA hlx (kA htk (kA hrest hok)))
   have HLF := kH (x5S wq base F' (some ⟨g, 0, none⟩) _ hS.rd)
   have hln : ((((numB y.kd ++ (numB y.at_ ++ (numB y.ln ++ (sttxB y.nm ++ (sttxB y.dt ++ rest))))).length : Nat) : Int) == 0) = false := by
    simp [x04]
    omega
   obtain ⟨e1, e2⟩ := x73 y.kd hok.kd.1 hok.kd.2 (numB y.at_ ++ (numB y.ln ++ (sttxB y.nm ++ (sttxB y.dt ++ rest))))
   obtain ⟨e3, e4⟩ := x73 y.at_ hok.at_.1 hok.at_.2 (numB y.ln ++ (sttxB y.nm ++ (sttxB y.dt ++ rest)))
   obtain ⟨e5, e6⟩ := x73 y.ln hok.ln.1 hok.ln.2 (sttxB y.nm ++ (sttxB y.dt ++ rest))
   obtain ⟨e7, e8⟩ := x5Z y.nm (by have := hok.nm.1; omega) (sttxB y.dt ++ rest)
   obtain ⟨e9, e10⟩ := x5Z y.dt (by have := hok.dt.1; omega) rest
   have hbw : base <= wq.heap.size := kT hB hS.on.size
   have hc1 := x25 wq base F' (some ⟨g, 0, none⟩) _ hS.rd hbw
   rw [e1, e2] at hc1
   have HC1 := kH hc1
   have HS := kH hS
   have HE := kH (kA e3 (kA e4 (kA e5 (kA e6 (kA e7 (kA e8 (kA e9 e10)))))))
   obtain ⟨N, hN⟩ := kX ((numB y.kd ++ (numB y.at_ ++ (numB y.ln ++ (sttxB y.nm ++ (sttxB y.dt ++ rest))))).length)
   rw [<- hN] at HLF hln
   have hN0 : N ≠ 0 := by intro e; rw [e] at hln; exact absurd hln (by decide)
   have hN1 : ((N : Int) == 0) = false := hln
   clear hy hdr hok htk hfl hS hlx hrest e1 e2 e3 e4 e5 e6 e7 e8 e9 e10 hbw hc1 hln hN
   go_wp2_with fail
   refine HLF.out.mono ?_
   rintro e w' ⟨rfl, rfl⟩
   go_wp2_with fail
   refine HC1.out.mono ?_
   rintro e wa ⟨rfl, ta⟩
   obtain ⟨Fa, sa, -⟩ := HS.out.read ta
   have hca := x25 wa base Fa (some ⟨g, 0, none⟩) _ sa.rd (kT hB sa.on.size)
   rw [HE.out.1, HE.out.2.1] at hca
   have HCa := kH hca
   have HSa := kH sa
   clear ta sa hca HC1 HLF HS
   go_wp2_with fail
   refine HCa.out.mono ?_
   rintro e wb ⟨rfl, ta⟩
   obtain ⟨Fb, sb, -⟩ := HSa.out.read ta
   have hcb := x25 wb base Fb (some ⟨g, 0, none⟩) _ sb.rd (kT hB sb.on.size)
   rw [HE.out.2.2.1, HE.out.2.2.2.1] at hcb
   have HCb := kH hcb
   have HSb := kH sb
   clear ta sb hcb HCa HSa
   go_wp2_with fail
   refine HCb.out.mono ?_
   rintro e wc ⟨rfl, ta⟩
   obtain ⟨Fc, sc, -⟩ := HSb.out.read ta
   have hcc := xBA wc base Fc (some ⟨g, 0, none⟩) _ sc.rd (kT hB sc.on.size)
   rw [HE.out.2.2.2.2.1, HE.out.2.2.2.2.2.1] at hcc
   have HCc := kH hcc
   have HSc := kH sc
   clear ta sc hcc HCb HSb
   go_wp2_with fail
   refine HCc.out.mono ?_
   rintro e wd ⟨rfl, ta⟩
   obtain ⟨Fd, sd, -⟩ := HSc.out.read ta
   have hcd := xI6 wd base Fd (some ⟨g, 0, none⟩) _ sd.rd (kT hB sd.on.size) (by simp [x1F]; omega)
   rw [HE.out.2.2.2.2.2.2.1, HE.out.2.2.2.2.2.2.2] at hcd
   have HCd := kH hcd
   have HSd := kH sd
   clear ta sd hcd HCc HSc
   go_wp2_with fail
   refine HCd.out.mono ?_
   rintro e we ⟨v5, F5, rfl, ho5, hr5, hon5, hfr5, hsm5, hnF5⟩
   obtain ⟨D5, c5, rfl⟩ := x0H ho5
   obtain ⟨Fe, se, hone⟩ := HSd.out.read ⟨F5, hr5, hon5, hfr5⟩
   clear HCd
   obtain ⟨s, hs⟩ : ∃ s : SV, s = ⟨y, D5, c5⟩ := ⟨_, rfl⟩
   have hS5 : StS w we base g F rest l (.slice A1 l.length c1) F5 := by
    have hfar : ∀ {v : Value} {b size n : Nat} {t : TypeId} {zs : List Value}, wd.ownsRow b t size v n zs -> (∀ k ∈ rowOf v, k ∉ Fd) -> we.ownsRow b t size v n zs /\ ∀ k ∈ rowOf v, k ∉ F5 := fun {v b size n t zs} hv hn => ⟨x13 hv hon5 hn, fun k hk hm => by
     rcases hfr5 k hm with h4 | h4
     ·exact hn k hk h4
     ·have := x02 hv k hk; omega⟩
    refine ⟨hr5, HSd.out.on.trans hon5 HSd.out.fr, HSd.out.fr.trans hfr5 HSd.out.on.size, (hfar HSd.out.row HSd.out.rowF).1, (hfar HSd.out.row HSd.out.rowF).2, fun s hs => ?_⟩
    obtain ⟨x1, x2, x3⟩ := HSd.out.els s hs
    exact ⟨(hfar x1 x3).1, x2, (hfar x1 x3).2⟩
   have HS5 := kH hS5
   have hbl := x05 we (.cells s.cs.toArray 52)
   have hS6 := hS5.below hbl
   have HS6 := kH hS6
   have hwd : w.heap.size <= wd.heap.size := HSd.out.on.size
   have HV := kH (kA (ho5.below hbl) (kA hsm5 (kA hnF5 hwd)))
   have HR6 := kH (xLJ we s)
   have HSS := kH hs
   have hcs : s.cs.toArray = #[.int .i64 y.kd, .int .i64 y.at_, .int .i64 y.ln, .string (strOf y.nm), .slice D5 y.dt.length c5] := by rw [hs]; rfl
   obtain ⟨wf, hwf⟩ := kX (we.alloc (.cells #[.int .i64 y.kd, .int .i64 y.at_, .int .i64 y.ln, .string (strOf y.nm), .slice D5 y.dt.length c5] 52))
   rw [hcs, <- hwf] at HS6 HV HR6
   have HWF := kH hwf
   have hw6 := HS6.out.on.size
   clear ho5 hr5 hon5 hfr5 hsm5 hnF5 se hone hS5 hS6 hbl hs hwf hwd hcs
   go_wp2_with (first
    | rw [<- HWF.out]
    | (refine xNL (.tmp 11) (.tmp 23) rfl rfl w.heap.size (.slice A1 l.length c1) l rfl HS6.out.row (we.heap.size + 1) _ 1 s rfl HR6.out (by omega) hw6 ?_; intro v7 w7 h7 g7 a7))
   have hS7 := HS6.out.app (y := s) HV.out.2.2.2 (by rw [HSS.out]; exact HV.out.1) (by rw [HSS.out]; exact HV.out.2.1) (by rw [HSS.out]; exact fun q hq => HV.out.2.2.1 q (x00.1 hq)) h7 g7 a7
   have HS7 := kH hS7
   clear hS7 h7 g7 a7
   go_wp2
   go_roundw
   case rel =>
    refine ⟨k + 1, l ++ [s], F5, by omega, by go_num, ?_, ?_⟩
    ·rw [map_append, HK.out.1, HK.out.2.1, HSS.out]
     rfl
    ·rw [<- HK.out.2.2.1]
     exact HS7.out
   case measure => simp [intS]; omega
  ·obtain rfl : k = xs.length := by omega
   rw [drop_length, flatMap_nil] at hS
   rw [take_length] at hlx
   have HS := kH (kA hS hlx)
   clear hS hlx
   go_wp2
   go_ret
   exact ⟨A1, c1, l, F', rfl, HS.out.2, HS.out.1⟩
end Go.Proofs.YtpogpajjemaagaaGreatDoor
