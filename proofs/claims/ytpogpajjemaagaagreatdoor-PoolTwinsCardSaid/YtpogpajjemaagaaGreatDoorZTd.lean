/- Texts of the walk, joined. -/
import Derived.Test.YtpogpajjemaagaaGreatDoorZTc
namespace Go.Proofs.YtpogpajjemaagaaGreatDoor
set_option linter.unusedSimpArgs false
set_option linter.unusedVariables false
set_option maxRecDepth 100000
open Go.Proofs.Tryz
set_option maxHeartbeats 16000000
open Go.RowKit Go.BigFrame
open List (all_eq_true append_assoc append_nil cons_append countP_replicate drop_append drop_drop drop_eq_getElem_cons drop_length drop_of_length_le drop_succ_cons ext_getElem? flatMap_append flatMap_cons flatMap_nil length_cons length_drop length_nil length_pos_iff length_pos_of_mem length_replicate length_take map_cons map_drop map_take mem_append mem_append_left mem_append_right mem_cons mem_cons_self mem_flatMap mem_iff_getElem mem_of_getElem? mem_of_mem_erase mem_singleton nil_append pairwise_cons replicate_succ singleton_append sum_cons take_add_one take_append_drop take_length take_of_length_le take_succ_cons)
variable {w w' w0 : World} {B base c g gen k n s u x y : Nat} {d : DM} {X st st' tx : LN} {vt : Value} {txs : List LN} {us : List Value} {l : List Bool} {b : Bool} {A : OA} {left : Int}
noncomputable def readL (d : DM) (a m : Nat) : List Sec := (List.range m).map (readRow d a m)
theorem x30 (d : DM) (a m : Nat) : (readL d a m).length = m := by simp [readL]
theorem xAQ {gj : Nat} (h : Holds w0 w g d X) (hJ : Blk w gj 176 (jcells n g 0 (.slice none 0 0) (.slice none 0 0) 0 false)) (hgj : gj ∈ X) (hgj0 : w0.heap.size <= gj) (hdn : d.n = n) (hn : n <= 4096) (hn8 : 8 <= n) (hup : d.gone = false) (hwt : d.wait.length <= 1000000)
 (hT : Tab w) (hw0 : 0 < w0.heap.size) (gen : Nat) (st : LN) (hst : st.length <= 100000) (hfit : pn st <= areaOf n) (htop : newestL (readL d 0 2) 2 = some ((gen : Int), (st.length : Int)))
 (hin : ∀ k s, k < pn st -> (readL d (stateAt n gen) (areaOf n))[k]? = some s -> isOf s.l 2 gen k = true /\ tD s.l = prow st k) :
  Calls prog 118 #[.pointer (some ⟨gj, 0, none⟩)] w fun e w' => ∃ B cc, e = .returned .nilIface /\ Holds w0 w' g d (blkOf B ++ X) /\ (∀ k ∈ blkOf B, w.heap.size <= k) /\ Blk w' gj 176 (jcells n g gen (.slice B st.length cc) (.slice none 0 0) 0 false) /\ Own w' w.heap.size (.slice B st.length cc) st.length st /\ (∀ k, k < w.heap.size -> k ≠ gj -> w'.heap[k]? = w.heap[k]?) /\ w.heap.size <= w'.heap.size := by
 have hpos : 0 < w.heap.size := kL hw0 h.size
 have hsa : stateAt n gen + areaOf n <= d.n := by
  rw [hdn]
  unfold stateAt areaOf
  have : gen % 2 = 0 ∨ gen % 2 = 1 := by omega
  rcases this with h | h <;> rw [h] <;> omega
 have has := x2M hn
 have H := kH h
 have HJ := kH hJ
 have HT := kH hT
 have HTOP := kH htop
 have q2 : w.cell? ⟨gj, 2, none⟩ = some (.pointer (some ⟨g, 0, none⟩)) := hJ.cell 2
 clear h hJ hT htop
 go_enter func118, ntmps118
 go_wp2_with fail
 refine (x7P H.out 0 2 hup (by omega) (by omega) hwt).mono ?_
 rintro e w1 ⟨v, rfl, hrow, b1⟩
 obtain ⟨A1, c1, rfl⟩ := x0H hrow
 rw [x42] at hrow
 have R1 := kH (kV hrow)
 have B1 := kH b1
 have J1 := kH (HJ.out.below b1 HJ.out.lt)
 clear hrow b1 q2
 go_wp2_with fail
 refine (xHO A1 c1 (readL d 0 2) w1 R1.out (by rw [x30]; omega) (x0O HT.out B1.out hpos) (kL hpos B1.out.size)).mono ?_
 rintro e w2 ⟨rfl, b2⟩
 rw [x30, HTOP.out]
 simp only [toldV]
 have B2 := kH (B1.out.trans (b2.mono B1.out.size))
 have J2 := kH (J1.out.below b2 J1.out.lt)
 clear b2 R1
 have hul := underlying173
 go_wp2
 have hS0 : Blk w2.drew gj 176 (jcells n g 0 (.slice none 0 0) (.slice none 0 0) 0 false) := J2.out
 refine x09 (fun w' => Blk w' gj 176 (jcells n g 0 (.slice none 0 0) (.slice none 0 0) 0 false)) 99 (by kernel_rfl) ?_
 refine tV 0 (.pointer (some ⟨gj, 0, none⟩)) rfl (fun w hw => by kernel_rfl) hS0 ?_
 refine tV 1 (.pointer (some ⟨gj, 0, none⟩)) rfl (fun w hw => by go_simp) hS0 ?_
 refine tV 2 (.pointer (some ⟨gj, 2, none⟩)) rfl (fun w hw => by kernel_rfl) hS0 ?_
 refine tV 3 (.pointer (some ⟨g, 0, none⟩)) rfl (fun w hw => by have q : w.cell? ⟨_, 2, none⟩ = some (.pointer (some ⟨g, 0, none⟩)) := hw.cell 2; go_simp) hS0 ?_
 refine tV 4 (.pointer (some ⟨gj, 0, none⟩)) rfl (fun w hw => by kernel_rfl) hS0 ?_
 refine tV 5 (.pointer (some ⟨gj, 0, none⟩)) rfl (fun w hw => by go_simp) hS0 ?_
 refine tV 6 (.pointer (some ⟨gj, 0, none⟩)) rfl (fun w hw => by kernel_rfl) hS0 ?_
 refine tV 7 (.agg [.int .i64 (areaOf n), .int .i64 (logOf n)].toArray) rfl (fun w hw => x2J 173 (.tmp 37) rfl gj 0 rfl _ _ (x2I hw) hul rfl x2O) hS0 ?_
 refine tV 8 (.int .i64 gen) rfl (fun w hw => by kernel_rfl) hS0 ?_
 refine tV 10 (.pointer (some ⟨gj, 0, none⟩)) rfl (fun w hw => by kernel_rfl) hS0 ?_
 refine tV 11 (.pointer (some ⟨gj, 0, none⟩)) rfl (fun w hw => by go_simp) hS0 ?_
 refine tV 12 (.pointer (some ⟨gj, 0, none⟩)) rfl (fun w hw => by kernel_rfl) hS0 ?_
 refine tV 13 (.pointer (some ⟨gj, 0, none⟩)) rfl (fun w hw => by kernel_rfl) hS0 ?_
 refine tV 14 (.int .i64 (areaOf n)) rfl (fun w hw => by have q : w.cell? ⟨_, 0, none⟩ = some (.int .i64 (areaOf n)) := hw.cell 0; go_simp) hS0 ?_
 refine tO 9 ?_
 refine x03 (by kernel_rfl) (x8M n gen w2.drew hn) ?_
 rintro e w3 ⟨rfl, b3'⟩
 have b3 := x0L b3'
 have hS3 := J2.out.below b3 J2.out.lt
 refine ⟨_, rfl, hS3, ?_⟩
 simp only [nH, pu, nB, nC, nD]
 have B3 := B2.out.trans (b3.mono B2.out.size)
 refine tO 15 ?_
 refine x03 (by kernel_rfl) (x7P (H.out.below B3) (stateAt n gen) (areaOf n) hup hsa (by omega) hwt) ?_
 rintro e w4 ⟨v, rfl, hrow, b4⟩
 obtain ⟨A4, c4, rfl⟩ := x0H hrow
 rw [x42] at hrow
 have hS4 := hS3.below b4 hS3.lt
 refine ⟨_, rfl, hS4, ?_⟩
 simp only [nH, pu, nB, nC, nD]
 refine tV 16 (.tuple #[.slice A4 (areaOf n) c4, .nilIface]) rfl (fun w hw => by kernel_rfl) hS4 ?_
 refine tV 17 (.slice A4 (areaOf n) c4) rfl (fun w hw => by kernel_rfl) hS4 ?_
 refine tV 18 .nilIface rfl (fun w hw => by kernel_rfl) hS4 ?_
 refine tO 19 ?_
 refine x10 (v := .slice A4 (areaOf n) c4) (by kernel_rfl) ⟨hS4, ?_⟩
 simp only [nH, pu, nB, nC, nD]
 refine tO 20 ?_
 refine x10 (v := .nilIface) (by kernel_rfl) ⟨hS4, ?_⟩
 simp only [nH, pu, nB, nC, nD]
 refine tE ?_
 have J4 := kH hS4
 have B4 := kH (B3.trans (b4.mono B3.size))
 have R4 := kH (kV hrow)
 clear hS0 hS3 hS4 hrow b3 b3' b4 B3
 go_wp2_with fail
 have hlen : (readL d (stateAt n gen) (areaOf n)).length = areaOf n := x30 _ _ _
 have hjo := xFT A4 c4 (readL d (stateAt n gen) (areaOf n)) gen st w4 (by rw [hlen]; exact R4.out) (by rw [hlen]; omega) (x0O HT.out B4.out hpos) (kL hpos B4.out.size) hst (by rw [hlen]; exact hfit) hin
 rw [hlen] at hjo
 refine hjo.mono ?_
 rintro e w5 ⟨v, rfl, hown, b5⟩
 obtain ⟨B, cc, rfl⟩ := x0H hown
 have J5 := kH (J4.out.below b5 J4.out.lt)
 have HO := kH hown
 have B5 := kH (B4.out.trans (b5.mono B4.out.size))
 have hs4 := B4.out.size
 have H5 := kH ((H.out.below B4.out).more b5 (x18 hown))
 have hBb := x18 hown
 clear hown b5 hjo
 go_wp2_with (first
  | (refine x0I rfl 3 (.tmp 67) (.tmp 64) rfl gj 3 176 _ (.int .i64 gen) rfl rfl J5.out (by simp [jcells]) (by kernel_rfl) rfl ?_; intro wa hba hoa hsa1)
  | (refine x0I rfl 35 (.tmp 69) (.tmp 65) rfl gj 4 176 _ (.slice B st.length cc) rfl rfl hba (by simp [jcells]) (by kernel_rfl) rfl ?_; intro wb hbb hob hsb))
 go_ret
 have hon : Only [gj] w5 wb := hoa.trans hob (kF _ _)
 have hgl := HJ.out.lt
 refine ⟨B, cc, rfl, H5.out.kept (by simp [hgj]) hon hgj0, fun k hk => by have := hBb k hk; omega, ?_, ?_, ?_, kT B5.out.size hon.size⟩
 ·simpa [jcells] using hbb
 ·exact x0B (x06 HO.out (w' := wb) (fun k hk => hon.block k (x02 HO.out k hk) (by have := x0G HO.out k hk; simp; omega))) hs4
 ·intro k hk hne
  rw [hon.block k (kL hk B5.out.size) (by simpa using hne)]
  exact B5.out.block k hk
noncomputable def standF (g : Int) (p : Nat) : List Sec -> Nat -> LN -> Option (LN × Nat)
 | [], _, _ => none
 | s :: l, k, tx => if isOf s.l 3 g ((p : Int) + (k : Int)) = true then standF g p l (k + 1) (tx ++ tD s.l) else if 0 < k /\ endOf s g ((p : Int) + (k : Int)) (k : Int) = true then some (tx, k + 1) else none
def StandTo (w : World) (o : Option (LN × Nat)) (e : Ending) (w' : World) : Prop := match o with
 | some (tx, m) => ∃ v, e = .returned (.tuple #[v, .int .i64 m]) /\ Own w' w.heap.size v tx.length tx /\ Below w.heap.size w w'
 | none => e = .returned (.tuple #[.slice none 0 0, .int .i64 0]) /\ Below w.heap.size w w'
theorem xDF (A : OA) (c : Nat) (ss : List Sec) (gen : Int) (p : Nat) (w : World) (hR : Reads w w.heap.size 128 A ss.length (ss.flatMap Sec.cs)) (hl : ss.length <= 4096) (hp : p <= 4096) (hT : Tab w) (hpos : 0 < w.heap.size) :
  Calls prog 181 #[.slice A ss.length c, .int .i64 gen, .int .i64 p] w (StandTo w (standF gen p ss 0 [])) := by
 obtain ⟨Zs, hz6, hzl⟩ : ∃ Zs : List Value, (∀ w, (zeroValue 66).run prog w = .ok (.agg Zs.toArray) w) /\ Zs.length = 128 := ⟨_, x0P, Sec.cs_len _⟩
 have hus := underlying66
 have hib : ∀ s : Sec, (prog.info? 66).map (·.size) = some s.cs.length := fun s => by rw [Sec.cs_len]; exact x0X
 have HR := kH hR
 have HT := kH hT
 clear hR hT
 go_enter func181, ntmps181
 go_wp2
 go_loopg [8, 15] ss.length (fun gk v j wr => ∃ (k : Nat) (u : Value) (tx : LN), k <= ss.length /\ gk = ss.length - k /\ u = v /\ j = .int .i64 k /\ Below w.heap.size w wr /\ Own wr w.heap.size u tx.length tx /\ standF gen p (ss.drop k) k tx = standF gen p ss 0 [] /\ tx.length <= 106 * k)
 case atStart => exact ⟨0, _, [], by omega, by omega, rfl, rfl, kB _ _, Own.nil w w.heap.size, by simp, by simp⟩
 case round =>
  obtain ⟨k, u, tx, hk, rfl, rfl, rfl, hb, hown, hst, htx⟩ := hrel
  by_cases hlt : k < ss.length
  ·obtain ⟨ad, s, rfl, hadb, hs, hc⟩ := x4T (HR.out.below hb) hlt
   have hdrop : ss.drop k = s :: ss.drop (k + 1) := by
    rw [drop_eq_getElem_cons hlt]
    congr 1
    exact Option.some.inj ((List.getElem?_eq_getElem hlt).symm.trans hs)
   rw [hdrop] at hst
   obtain ⟨Au, cu, rfl⟩ := x0H hown
   have BX := kH (kW wr 66 s.cs.toArray)
   have BW := kH (hb.alloc hb.size (.cells s.cs.toArray 66))
   have HO := kH (hown.alloc (.cells s.cs.toArray 66))
   have HST := kH hst
   clear hb hs hdrop hown hst
   go_wp2_with (first
    | (refine x20 rfl 66 (.tmp 18) rfl _ rfl s.cs _ hc hus rfl (hib s) ?_)
    | (refine x07 rfl 66 (.tmp 10) (.tmp 19) rfl wr.heap.size rfl s.cs Zs.toArray rfl rfl (hib s) (by simp [Sec.cs_len, hzl]) s.one ?_)
    | (refine wpList_load_mid rfl 66 (.tmp 10) rfl wr.heap.size 0 rfl s.cs _ BX.out.range hus rfl (hib s) ?_))
   generalize hw5 : wr.alloc (.cells s.cs.toArray 66) = w5 at *
   generalize hgx : wr.heap.size = gx at *
   clear hw5 hgx hc
   cases his : isOf s.l 3 gen ((p : Int) + (k : Int)) with
   | true =>
    have hnx : standF gen p (ss.drop (k + 1)) (k + 1) (tx ++ tD s.l) = standF gen p ss 0 [] := by
     rw [<- HST.out]
     show _ = if isOf s.l 3 gen ((p : Int) + (k : Int)) = true then _ else _
     rw [if_pos his]
    have htl := x5C s.l
    have HNX := kH hnx
    refine (xCX s 3 gen ((p : Int) + (k : Int)) w5 (x0O HT.out BW.out hpos) his).mono ?_
    rintro e w6 ⟨A6, c6, rfl, ho6, b6⟩
    have BY := kH (ho6.bytes (x2Q s.l s.lt))
    have HO6 := kH (x06 HO.out (w' := w6) (fun x hx => b6.block x (x02 HO.out x hx)))
    have B6 := kH (BW.out.trans (b6.mono BW.out.size))
    clear ho6 b6 his hnx
    go_wp2_with (at_builtin; refine x2X (.tmp 49) (.tmp 50) rfl rfl w.heap.size (.slice Au tx.length cu) tx.length tx rfl HO6.out w6.heap.size A6 (tD s.l).length c6 (tD s.l) rfl BY.out (by omega) B6.out.size ?_; intro v7 w7 h7 hg7 ha7)
    go_roundg (ss.length - (k + 1))
    case measure => omega
    case rel =>
     refine ⟨k + 1, v7, tx ++ tD s.l, by omega, rfl, rfl, by go_num, B6.out.grown hg7 B6.out.size (fun x hx => (kD HO6.out x hx).1), ?_, HNX.out, by rw [kN]; omega⟩
     rw [kN]
     exact h7
   | false =>
    refine (xO6 s 3 gen ((p : Int) + (k : Int)) w5 (x0O HT.out BW.out hpos) his).mono ?_
    rintro e w6 ⟨rfl, b6⟩
    have BX6 := kH (BX.out.below b6 BX.out.lt)
    have HO6 := kH (x06 HO.out (w' := w6) (fun x hx => b6.block x (x02 HO.out x hx)))
    have B6 := kH (BW.out.trans (b6.mono BW.out.size))
    have htop : standF gen p ss 0 [] = if 0 < k /\ endOf s gen ((p : Int) + (k : Int)) (k : Int) = true then some (tx, k + 1) else none := by
     rw [<- HST.out]
     show (if isOf s.l 3 gen ((p : Int) + (k : Int)) = true then _ else _) = _
     rw [if_neg (by rw [his]; exact Bool.false_ne_true)]
    have HTOP := kH htop
    clear b6 his htop
    by_cases hk0 : 0 < k
    ·have hc0 : (k : Int) > 0 := by omega
     go_wp2_with (refine x1N (by kernel_rfl) 66 (.tmp 10) rfl gx 0 rfl s.cs _ BX6.out.range hus rfl (hib s) ?_)
     refine (xMG s gen ((p : Int) + (k : Int)) (k : Int) w6 (x0O HT.out B6.out hpos)).mono ?_
     rintro e w7 ⟨rfl, b7⟩
     have B7 := kH (B6.out.trans (b7.mono B6.out.size))
     have HO7 := kH (x06 HO6.out (w' := w7) (fun x hx => b7.block x (x02 HO6.out x hx)))
     clear b7
     cases he : endOf s gen ((p : Int) + (k : Int)) (k : Int) with
     | true =>
      have hn : standF gen p ss 0 [] = some (tx, k + 1) := by rw [HTOP.out, if_pos ⟨hk0, he⟩]
      clear he
      go_wp2
      go_ret2
      rw [hn]
      exact ⟨_, by go_num, HO7.out, B7.out⟩
     | false =>
      have hn : standF gen p ss 0 [] = none := by rw [HTOP.out, if_neg (by rw [he]; simp)]
      clear he
      go_wp2
      go_ret2
      rw [hn]
      exact ⟨rfl, B7.out⟩
    ·have hc0 : ¬ (k : Int) > 0 := by omega
     have hn : standF gen p ss 0 [] = none := by rw [HTOP.out, if_neg (fun h => hk0 h.1)]
     go_wp2
     go_ret2
     rw [hn]
     exact ⟨rfl, B6.out⟩
  ·obtain rfl : k = ss.length := by omega
   rw [drop_length] at hst
   have hn : standF gen p ss 0 [] = none := hst.symm
   go_wp2
   go_ret2
   rw [hn]
   exact ⟨rfl, hb⟩
noncomputable def LogIs (g : Int) (ss : List Sec) : Nat -> List LN -> Nat -> Prop
 | u, [], v => u = v /\ standF g u (ss.drop u) 0 [] = none
 | u, t :: l, v => ∃ m, standF g u (ss.drop u) 0 [] = some (t, m) /\ LogIs g ss (u + m) l v
theorem xBK {g : Int} {p : Nat} : ∀ (l : List Sec) (k : Nat) (tx t : LN) (m : Nat), standF g p l k tx = some (t, m) -> k < m /\ m <= k + l.length /\ t.length <= tx.length + 106 * l.length
 | [], k, tx, t, m, h => by cases h
 | s :: l, k, tx, t, m, h => by
  unfold standF at h
  split at h
  ·have h1 := xBK l (k + 1) _ t m h
   have h2 := x5C s.l
   simp only [kN, length_cons] at h1 ⊢
   omega
  ·split at h
   ·injection h with h
    injection h with h1 h2
    subst h1 h2
    simp only [length_cons]
    omega
   ·cases h
theorem xBZ : ∀ (ss : List Sec) (v : Nat), (ss.flatMap Sec.cs).drop (v * 128) = (ss.drop v).flatMap Sec.cs
 | ss, 0 => by simp
 | [], v + 1 => by simp
 | s :: ss, v + 1 => by
  rw [flatMap_cons, drop_succ_cons, <- xBZ ss v, show (v + 1) * 128 = s.cs.length + v * 128 by rw [Sec.cs_len, Nat.add_mul]; omega, drop_append]
  simp
def TxRows (w : World) (base : Nat) (vt : Value) (txs : List LN) (us : List Value) : Prop :=
  w.ownsRow base 35 1 vt txs.length us /\ us.length = txs.length /\ ∀ (i : Nat) (tx : LN), txs[i]? = some tx -> ∃ B c, us[i]? = some (.slice B tx.length c) /\ Own w base (.slice B tx.length c) tx.length tx
def txBlks (vt : Value) (us : List Value) : LN := rowOf vt ++ us.flatMap rowOf
theorem TxRows.of (h : TxRows w base vt txs us) (hk : ∀ k ∈ txBlks vt us, w'.heap[k]? = w.heap[k]?) : TxRows w' base vt txs us := by
 refine ⟨x06 h.1 (fun k hk' => hk k (mem_append_left _ hk')), h.2.1, fun i tx hi => ?_⟩
 obtain ⟨B, c, h1, h2⟩ := h.2.2 i tx hi
 exact ⟨B, c, h1, x06 h2 (fun k hk' => hk k (mem_append_right _ (mem_flatMap.2 ⟨_, mem_of_getElem? h1, hk'⟩)))⟩
theorem TxRows.weaken {base' : Nat} (h : TxRows w base vt txs us) (hb : base' <= base) : TxRows w base' vt txs us :=
 ⟨x0B h.1 hb, h.2.1, fun i tx hi => by
  obtain ⟨B, c, h1, h2⟩ := h.2.2 i tx hi
  exact ⟨B, c, h1, h2.weaken hb⟩⟩
theorem TxRows.item (h : TxRows w base vt txs us) {u : Value} (hu : u ∈ us) : ∃ B c tx, u = .slice B (List.length tx) c /\ tx ∈ txs /\ Own w base (.slice B tx.length c) tx.length tx := by
 obtain ⟨i, hi, rfl⟩ := mem_iff_getElem.1 hu
 have hx : txs[i]? = some (txs[i]'(by have := h.2.1; omega)) := List.getElem?_eq_getElem _
 obtain ⟨B, c, h1, h2⟩ := h.2.2 i _ hx
 rw [List.getElem?_eq_getElem hi] at h1
 injection h1 with h1
 exact ⟨B, c, _, h1, List.getElem_mem _, h2⟩
theorem TxRows.over (h : TxRows w base vt txs us) : ∀ k ∈ txBlks vt us, base <= k /\ k < w.heap.size := fun k hk => by
 rcases mem_append.1 hk with hk | hk
 ·exact kD h.1 k (x00.1 hk)
 ·obtain ⟨u, hu, hk⟩ := mem_flatMap.1 hk
  obtain ⟨B, c, tx, rfl, _, ho⟩ := h.item hu
  exact kD ho k (x00.1 hk)
theorem TxRows.nil (w : World) (base : Nat) : TxRows w base (.slice none 0 0) [] [] := ⟨World.ownsRow_nil w base _ 1, rfl, fun i tx h => by simp at h⟩
theorem x65 {b1 b2 n1 n2 s1 s2 : Nat} {e1 e2 : TypeId} {v1 v2 : Value} {x1 x2 : List Value} (h1 : w.ownsRow b1 e1 s1 v1 n1 x1) (h2 : w.ownsRow b2 e2 s2 v2 n2 x2) (hne : e1 ≠ e2) : ∀ k ∈ rowOf v1, v2.ownBlock ≠ some k := by
 intro k hk
 rcases h1.2 with ⟨rfl, _⟩ | ⟨g', cap, cur, rfl, _, hh, _⟩
 ·have := x00.1 hk; simp [Value.ownBlock] at this
 ·have hg : k = g' := by have := x00.1 hk; simp [Value.ownBlock] at this; exact this.symm
  subst hg
  exact x12 h2 (show Blk w k e1 cur from hh) (Ne.symm hne)
theorem x4Z (A : OA) (n c : Nat) : rowOf (.slice A n c) ⊆ blkOf A := by
 intro k hk
 have := x00.1 hk
 cases A with
 | none => simp [Value.ownBlock] at this
 | some ad =>
  simp only [Value.ownBlock] at this
  simp only [blkOf, mem_singleton]
  injection this with this
  exact this.symm
theorem TxRows.snoc {w w' : World} {base : Nat} {vt vt' : Value} {txs : List LN} {us : List Value} (h : TxRows w base vt txs us) {tx : LN} {B : OA} {c : Nat} (ho : Own w base (.slice B tx.length c) tx.length tx) (hg : w.grownBy w' vt.ownBlock) (hr : w'.ownsRow base 35 1 vt' (txs.length + 1) (us ++ [.slice B tx.length c])) : TxRows w' base vt' (txs ++ [tx]) (us ++ [.slice B tx.length c]) := by
 have hown : ∀ {v : Value} {n : Nat} {bs : LN}, Own w base v n bs -> Own w' base v n bs := fun {v n bs} hv => x06 hv fun k hk => hg.block k (kD hv k (x00.1 hk)).2 (fun e => x65 hv h.1 (by decide) k hk e.symm)
 refine ⟨by rw [kN]; exact hr, by simp [h.2.1], fun i t hi => ?_⟩
 by_cases hlt : i < txs.length
 ·rw [List.getElem?_append_left hlt] at hi
  obtain ⟨B', c', h1, h2⟩ := h.2.2 i t hi
  exact ⟨B', c', by rw [List.getElem?_append_left (by have := h.2.1; omega)]; exact h1, hown h2⟩
 ·rw [List.getElem?_append_right (by omega)] at hi
  have h0 : i - txs.length = 0 := by
   rcases Nat.eq_zero_or_pos (i - txs.length) with h0 | h0
   ·exact h0
   ·rw [List.getElem?_eq_none (by simp; omega)] at hi; cases hi
  rw [h0] at hi
  simp at hi
  subst hi
  exact ⟨B, c, by rw [List.getElem?_append_right (by have := h.2.1; omega), h.2.1, h0]; rfl, hown ho⟩
theorem xEB (A : OA) (m c k : Nat) (hk : k <= m) (w : World) : (Instr.slice 179 (.slice A m c) (some (.int .i64 k)) none none).run prog w = .ok (.slice (if c = k then A else A.map (·.add (k * 128))) (m - k) (c - k)) w := by
 have hsz : ∀ w, (sizeOf (prog.elem 179)).run prog w = .ok 128 w := fun w => by kernel_rfl
 rw [run_slice_l w 179 A m c (by kernel_rfl) .i64 k (by omega) (by omega), hsz]
 simp only [Result.andThen, sliced, kP]
theorem xE7 {gj : Nat} {vs : Value} (h : Holds w0 w g d X) (hJ : Blk w gj 176 (jcells n g gen vs (.slice none 0 0) 0 false)) (hgj : gj ∈ X) (hgj0 : w0.heap.size <= gj) (hdn : d.n = n) (hn : n <= 4096) (hn8 : 8 <= n) (hup : d.gone = false) (hwt : d.wait.length <= 1000000)
 (hT : Tab w) (hw0 : 0 < w0.heap.size) (txs : List LN) (u : Nat) (hlog : LogIs gen (readL d (logAt n) (logOf n)) 0 txs u) :
  Calls prog 119 #[.pointer (some ⟨gj, 0, none⟩)] w fun e w' => ∃ vt us, e = .returned .nilIface /\ Holds w0 w' g d (txBlks vt us ++ X) /\ (∀ k ∈ txBlks vt us, w.heap.size <= k) /\ Blk w' gj 176 (jcells n g gen vs vt u false) /\ TxRows w' w.heap.size vt txs us /\ (∀ k, k < w.heap.size -> k ≠ gj -> w'.heap[k]? = w.heap[k]?) /\ w.heap.size <= w'.heap.size := by
 have hpos : 0 < w.heap.size := kL hw0 h.size
 have hsa : logAt n + logOf n <= d.n := by
  rw [hdn]
  unfold logAt logOf areaOf
  omega
 have hlo : logOf n <= 4096 := by unfold logOf; omega
 have hgl := hJ.lt
 have H := kH h
 have HJ := kH hJ
 have HT := kH hT
 have HLOG := kH hlog
 clear h hJ hT hlog
 have hul := underlying173
 go_enter func119, ntmps119
 go_wp2
 have hS0 : Blk w.drew gj 176 (jcells n g gen vs (.slice none 0 0) 0 false) := HJ.out
 refine x09 (fun w' => Blk w' gj 176 (jcells n g gen vs (.slice none 0 0) 0 false)) 99 (by kernel_rfl) ?_
 refine tV 0 (.pointer (some ⟨gj, 0, none⟩)) rfl (fun w hw => by kernel_rfl) hS0 ?_
 refine tV 1 (.pointer (some ⟨gj, 0, none⟩)) rfl (fun w hw => by go_simp) hS0 ?_
 refine tV 2 (.pointer (some ⟨gj, 2, none⟩)) rfl (fun w hw => by kernel_rfl) hS0 ?_
 refine tV 3 (.pointer (some ⟨g, 0, none⟩)) rfl (fun w hw => by have q : w.cell? ⟨_, 2, none⟩ = some (.pointer (some ⟨g, 0, none⟩)) := hw.cell 2; go_simp) hS0 ?_
 refine tV 4 (.pointer (some ⟨gj, 0, none⟩)) rfl (fun w hw => by kernel_rfl) hS0 ?_
 refine tV 5 (.pointer (some ⟨gj, 0, none⟩)) rfl (fun w hw => by go_simp) hS0 ?_
 refine tV 6 (.pointer (some ⟨gj, 0, none⟩)) rfl (fun w hw => by kernel_rfl) hS0 ?_
 refine tV 7 (.agg [.int .i64 (areaOf n), .int .i64 (logOf n)].toArray) rfl (fun w hw => x2J 173 (.tmp 14) rfl gj 0 rfl _ _ (x2I hw) hul rfl x2O) hS0 ?_
 refine tV 9 (.pointer (some ⟨gj, 0, none⟩)) rfl (fun w hw => by kernel_rfl) hS0 ?_
 refine tV 10 (.pointer (some ⟨gj, 0, none⟩)) rfl (fun w hw => by go_simp) hS0 ?_
 refine tV 11 (.pointer (some ⟨gj, 0, none⟩)) rfl (fun w hw => by kernel_rfl) hS0 ?_
 refine tV 12 (.pointer (some ⟨gj, 1, none⟩)) rfl (fun w hw => by kernel_rfl) hS0 ?_
 refine tV 13 (.int .i64 (logOf n)) rfl (fun w hw => by have q : w.cell? ⟨_, 1, none⟩ = some (.int .i64 (logOf n)) := hw.cell 1; go_simp) hS0 ?_
 refine tO 8 ?_
 refine x03 (by kernel_rfl) (x79 n w.drew hn) ?_
 rintro e w3 ⟨rfl, b3'⟩
 have b3 := x0L b3'
 have hS3 := HJ.out.below b3 HJ.out.lt
 refine ⟨_, rfl, hS3, ?_⟩
 simp only [nH, pu, nB, nC, nD]
 refine tO 14 ?_
 refine x03 (by kernel_rfl) (x7P (H.out.below b3) (logAt n) (logOf n) hup hsa (by omega) hwt) ?_
 rintro e w4 ⟨v, rfl, hrow, b4⟩
 obtain ⟨A4, c4, rfl⟩ := x0H hrow
 rw [x42] at hrow
 have hS4 := hS3.below b4 hS3.lt
 refine ⟨_, rfl, hS4, ?_⟩
 simp only [nH, pu, nB, nC, nD]
 refine tV 15 (.tuple #[.slice A4 (logOf n) c4, .nilIface]) rfl (fun w hw => by kernel_rfl) hS4 ?_
 refine tV 16 (.slice A4 (logOf n) c4) rfl (fun w hw => by kernel_rfl) hS4 ?_
 refine tV 17 .nilIface rfl (fun w hw => by kernel_rfl) hS4 ?_
 refine tO 18 ?_
 refine x10 (v := .slice A4 (logOf n) c4) (by kernel_rfl) ⟨hS4, ?_⟩
 simp only [nH, pu, nB, nC, nD]
 refine tO 19 ?_
 refine x10 (v := .nilIface) (by kernel_rfl) ⟨hS4, ?_⟩
 simp only [nH, pu, nB, nC, nD]
 refine tE ?_
 have J4 := kH hS4
 have B4 := kH (b3.trans (b4.mono b3.size))
 have R4 := kH (x0B hrow b3.size)
 have hlen : (readL d (logAt n) (logOf n)).length = logOf n := x30 _ _ _
 have hcap : logOf n <= c4 := by
  rcases hrow.2 with ⟨hv, h0⟩ | ⟨gw, cap', cur, hv, _, _, hnc, _⟩
  ·injection hv with h1 h2 h3; omega
  ·injection hv with h1 h2 h3; omega
 clear hS0 hS3 hS4 hrow b3 b3' b4
 go_wp2
 generalize hss : readL d (logAt n) (logOf n) = ss at *
 have hrd : (List.map (readRow d (logAt n) (logOf n)) (List.range (logOf n))) = ss := hss
 rw [hrd] at R4
 clear hrd hss
 have HLEN := kH hlen
 clear hlen
 go_loopg [5, 6] txs.length (fun gk x y wr => ∃ (done rest : List LN) (v : Nat) (vt : Value) (us : List Value), gk = rest.length /\ done ++ rest = txs /\ LogIs gen ss v rest u /\ v <= logOf n /\ done.length <= v /\ Holds w0 wr g d (txBlks vt us ++ X) /\ Blk wr gj 176 (jcells n g gen vs vt v false) /\ TxRows wr w.heap.size vt done us /\ (∀ k, k < w.heap.size -> k ≠ gj -> wr.heap[k]? = w.heap[k]?) /\ w.heap.size <= wr.heap.size /\ wr.ownsRow w.heap.size 66 128 (.slice A4 (logOf n) c4) (logOf n) (ss.flatMap Sec.cs))
 case atStart => exact ⟨[], txs, 0, _, [], rfl, rfl, HLOG.out, by omega, by simp, (H.out.below B4.out).mono (fun k hk => by simpa [txBlks, rowOf, Value.ownBlock] using hk), J4.out, TxRows.nil _ _, fun k hk _ => B4.out.block k hk, B4.out.size, R4.out⟩
 case round =>
  obtain ⟨done, rest, v, vt, us, rfl, hdone, hlg, hv, hdv, hh, hj, htx, hkeep, hsz, hrow⟩ := hrel
  have hgw0 : 0 ≠ gj := by omega
  have htab : Tab wr := fun i hi => (World.cell?_of_block (hkeep 0 hpos hgw0)).trans (HT.out i hi)
  have hcut := (kV hrow).cut (k := v) (cap := c4) hv hcap
  have hfd : (ss.drop v).length = logOf n - v := by rw [length_drop, HLEN.out]
  have hcut2 : Reads wr wr.heap.size 128 (if c4 = v then A4 else A4.map (·.add (v * 128))) (ss.drop v).length ((ss.drop v).flatMap Sec.cs) := by
   rw [hfd, show (ss.drop v).flatMap Sec.cs = (ss.flatMap Sec.cs).drop (v * 128) from (xBZ ss v).symm]
   exact hcut
  have hst := xDF _ (c4 - v) (ss.drop v) gen v wr.drew hcut2.drew (by rw [hfd]; omega) (by omega) htab (by show 0 < wr.heap.size; omega)
  rw [hfd] at hst
  generalize hAc : (if c4 = v then A4 else A4.map (·.add (v * 128))) = Ac at *
  have hsl : ∀ w, (Instr.slice 179 (.slice A4 (logOf n) c4) (some (.int .i64 v)) none none).run prog w = .ok (.slice Ac (logOf n - v) (c4 - v)) w := fun w => by rw [<- hAc]; exact xEB A4 (logOf n) c4 v hv w
  clear hAc hcut hcut2
  have HST := kH hst
  have HSL := kH hsl
  have HDONE := kH hdone
  have HH := kH hh
  have HJR := kH hj
  have HTX := kH htx
  have HKEEP := kH hkeep
  have HROW := kH hrow
  have HTAB := kH htab
  clear hst hsl hdone hh hj htx hkeep hrow htab hfd
  have hls := hlg
  cases rest with
  | nil =>
   have hvu := hlg.1
   subst hvu
   go_wp2
   have hS5 : Blk wr.drew gj 176 (jcells n g gen vs vt v false) := HJR.out
   refine x09 (fun w' => Blk w' gj 176 (jcells n g gen vs vt v false)) 99 (by kernel_rfl) ?_
   refine tV 0 (.slice A4 (logOf n) c4) rfl (fun w hw => by kernel_rfl) hS5 ?_
   refine tV 1 (.pointer (some ⟨gj, 0, none⟩)) rfl (fun w hw => by kernel_rfl) hS5 ?_
   refine tV 2 (.pointer (some ⟨gj, 0, none⟩)) rfl (fun w hw => by go_simp) hS5 ?_
   refine tV 3 (.pointer (some ⟨gj, 6, none⟩)) rfl (fun w hw => by kernel_rfl) hS5 ?_
   refine tV 4 (.int .i64 v) rfl (fun w hw => by have q : w.cell? ⟨_, 6, none⟩ = some (.int .i64 v) := hw.cell 6; go_simp) hS5 ?_
   refine tV 5 (.slice Ac (logOf n - v) (c4 - v)) rfl (fun w hw => by have q := HSL.out w; go_simp) hS5 ?_
   refine tV 6 (.pointer (some ⟨gj, 0, none⟩)) rfl (fun w hw => by kernel_rfl) hS5 ?_
   refine tV 7 (.pointer (some ⟨gj, 0, none⟩)) rfl (fun w hw => by go_simp) hS5 ?_
   refine tV 8 (.pointer (some ⟨gj, 3, none⟩)) rfl (fun w hw => by kernel_rfl) hS5 ?_
   refine tV 9 (.int .i64 gen) rfl (fun w hw => by have q : w.cell? ⟨_, 3, none⟩ = some (.int .i64 gen) := hw.cell 3; go_simp) hS5 ?_
   refine tV 10 (.pointer (some ⟨gj, 0, none⟩)) rfl (fun w hw => by kernel_rfl) hS5 ?_
   refine tV 11 (.pointer (some ⟨gj, 0, none⟩)) rfl (fun w hw => by go_simp) hS5 ?_
   refine tV 12 (.pointer (some ⟨gj, 6, none⟩)) rfl (fun w hw => by kernel_rfl) hS5 ?_
   refine tV 13 (.int .i64 v) rfl (fun w hw => by have q : w.cell? ⟨_, 6, none⟩ = some (.int .i64 v) := hw.cell 6; go_simp) hS5 ?_
   refine tO 14 ?_
   refine x03 (by kernel_rfl) HST.out ?_
   rintro e w5 hto
   rw [hlg.2] at hto
   obtain ⟨rfl, b5'⟩ := hto
   have b5 := x0L b5'
   have hS6 := HJR.out.below b5 HJR.out.lt
   refine ⟨_, rfl, hS6, ?_⟩
   simp only [nH, pu, nB, nC, nD]
   refine tV 15 (.tuple #[.slice none 0 0, .int .i64 0]) rfl (fun w hw => by kernel_rfl) hS6 ?_
   refine tV 16 (.slice none 0 0) rfl (fun w hw => by kernel_rfl) hS6 ?_
   refine tV 17 (.int .i64 0) rfl (fun w hw => by kernel_rfl) hS6 ?_
   refine tO 18 ?_
   refine x10 (v := .slice none 0 0) (by kernel_rfl) ⟨hS6, ?_⟩
   simp only [nH, pu, nB, nC, nD]
   refine tO 19 ?_
   refine x10 (v := .int .i64 0) (by kernel_rfl) ⟨hS6, ?_⟩
   simp only [nH, pu, nB, nC, nD]
   refine tE ?_
   have HJ6 := kH hS6
   have B6 := kH b5
   clear hS5 hS6 b5 b5' hlg hls
   go_wp2
   go_ret
   have hdd := HDONE.out
   rw [append_nil] at hdd
   subst hdd
   exact ⟨vt, us, rfl, HH.out.below B6.out, fun k hk => (HTX.out.over k hk).1, HJ6.out, HTX.out.of (fun k hk => B6.out.block k (HTX.out.over k hk).2), fun k hk hne => (B6.out.block k (kL hk hsz)).trans (HKEEP.out k hk hne), kT hsz B6.out.size⟩
  | cons t rest' =>
   obtain ⟨m, hs1, hs2⟩ := hlg
   have hmb := xBK _ _ _ _ _ hs1
   rw [length_drop, HLEN.out] at hmb
   simp only [length_nil] at hmb
   go_wp2
   have hS5 : Blk wr.drew gj 176 (jcells n g gen vs vt v false) := HJR.out
   refine x09 (fun w' => Blk w' gj 176 (jcells n g gen vs vt v false)) 99 (by kernel_rfl) ?_
   refine tV 0 (.slice A4 (logOf n) c4) rfl (fun w hw => by kernel_rfl) hS5 ?_
   refine tV 1 (.pointer (some ⟨gj, 0, none⟩)) rfl (fun w hw => by kernel_rfl) hS5 ?_
   refine tV 2 (.pointer (some ⟨gj, 0, none⟩)) rfl (fun w hw => by go_simp) hS5 ?_
   refine tV 3 (.pointer (some ⟨gj, 6, none⟩)) rfl (fun w hw => by kernel_rfl) hS5 ?_
   refine tV 4 (.int .i64 v) rfl (fun w hw => by have q : w.cell? ⟨_, 6, none⟩ = some (.int .i64 v) := hw.cell 6; go_simp) hS5 ?_
   refine tV 5 (.slice Ac (logOf n - v) (c4 - v)) rfl (fun w hw => by have q := HSL.out w; go_simp) hS5 ?_
   refine tV 6 (.pointer (some ⟨gj, 0, none⟩)) rfl (fun w hw => by kernel_rfl) hS5 ?_
   refine tV 7 (.pointer (some ⟨gj, 0, none⟩)) rfl (fun w hw => by go_simp) hS5 ?_
   refine tV 8 (.pointer (some ⟨gj, 3, none⟩)) rfl (fun w hw => by kernel_rfl) hS5 ?_
   refine tV 9 (.int .i64 gen) rfl (fun w hw => by have q : w.cell? ⟨_, 3, none⟩ = some (.int .i64 gen) := hw.cell 3; go_simp) hS5 ?_
   refine tV 10 (.pointer (some ⟨gj, 0, none⟩)) rfl (fun w hw => by kernel_rfl) hS5 ?_
   refine tV 11 (.pointer (some ⟨gj, 0, none⟩)) rfl (fun w hw => by go_simp) hS5 ?_
   refine tV 12 (.pointer (some ⟨gj, 6, none⟩)) rfl (fun w hw => by kernel_rfl) hS5 ?_
   refine tV 13 (.int .i64 v) rfl (fun w hw => by have q : w.cell? ⟨_, 6, none⟩ = some (.int .i64 v) := hw.cell 6; go_simp) hS5 ?_
   refine tO 14 ?_
   refine x03 (by kernel_rfl) HST.out ?_
   rintro e w5 hto
   rw [hs1] at hto
   obtain ⟨v5, rfl, hown, b5'⟩ := hto
   have b5 := x0L b5'
   obtain ⟨B5, c5, rfl⟩ := x0H hown
   have hS6 := HJR.out.below b5 HJR.out.lt
   refine ⟨_, rfl, hS6, ?_⟩
   simp only [nH, pu, nB, nC, nD]
   refine tV 15 (.tuple #[.slice B5 t.length c5, .int .i64 m]) rfl (fun w hw => by kernel_rfl) hS6 ?_
   refine tV 16 (.slice B5 t.length c5) rfl (fun w hw => by kernel_rfl) hS6 ?_
   refine tV 17 (.int .i64 m) rfl (fun w hw => by kernel_rfl) hS6 ?_
   refine tO 18 ?_
   refine x10 (v := .slice B5 t.length c5) (by kernel_rfl) ⟨hS6, ?_⟩
   simp only [nH, pu, nB, nC, nD]
   refine tO 19 ?_
   refine x10 (v := .int .i64 m) (by kernel_rfl) ⟨hS6, ?_⟩
   simp only [nH, pu, nB, nC, nD]
   refine tE ?_
   have hdr : wr.drew.heap.size = wr.heap.size := rfl
   rw [hdr] at hown
   have HJ6 := kH hS6
   have B6 := kH b5
   have HO6 := kH hown
   have HLS := kH hs2
   have T6 := kH (HTX.out.of (fun k hk => b5.block k (HTX.out.over k hk).2))
   have R6 := kH (x06 HROW.out (fun k hk => b5.block k (x02 HROW.out k hk)))
   have H6 := kH ((HH.out.more b5 (x18 hown)))
   have hm0 : ((m : Int) == 0) = false := by simp; omega
   have hm0' : (m == 0) = false := by simp; omega
   clear hS5 hS6 b5 b5' hown hs1 hs2 hls
   have q5 : w5.cell? ⟨gj, 5, none⟩ = some vt := HJ6.out.cell 5
   have J11 := HJ6.out.alloc (.cells #[.slice B5 t.length c5] 35)
   have hrc := Reads.new w5 [.slice B5 t.length c5] 35 (0, 0)
   have T11 := T6.out.of (w' := w5.alloc (.cells #[.slice B5 t.length c5] 35)) (fun k hk => kG w5 _ k (T6.out.over k hk).2)
   have O11 := (HO6.out.weaken hsz).alloc (.cells #[.slice B5 t.length c5] 35)
   have R11 := World.ownsRow.alloc R6.out (.cells #[.slice B5 t.length c5] 35)
   have H11 := H6.out.alloc (.cells #[.slice B5 t.length c5] 35)
   have hblk11 : ∀ k, k < w5.heap.size -> (w5.alloc (.cells #[.slice B5 t.length c5] 35)).heap[k]? = w5.heap[k]? := fun k hk => kG w5 _ k hk
   have hsz11 : (w5.alloc (.cells #[.slice B5 t.length c5] 35)).heap.size = w5.heap.size + 1 := by simp
   have hs5' := B6.out.size
   obtain ⟨iy, hiy0, hiy1, hiy2, hiy3⟩ := info_parts x8G
   have HINFO := kH (kA hiy0 (kA hiy1 (kA hiy2 hiy3)))
   have HT11 := kH T11
   have HO11 := kH O11
   have HR11 := kH R11
   have HH11 := kH H11
   have HJ11 := kH J11
   have HB11 := kH hblk11
   have HRC := kH hrc
   have HSZ := kH hsz11
   clear T11 O11 R11 H11 J11 hblk11 hrc hsz11 hiy0 hiy1 hiy2 hiy3
   go_wp2_with (first
    | (at_builtin; (refine x0Z _ rfl (.tmp 52) (.tmp 54) 42 rfl w.heap.size 35 iy _ 1 24 underlying42 HINFO.out.1 HINFO.out.2.1 HINFO.out.2.2.1 HINFO.out.2.2.2 rfl (by omega) vt done.length us rfl HT11.out.1 _ (some ⟨w5.heap.size, 0, none⟩) 1 1 [.slice B5 t.length c5] rfl HRC.out (fun u hu => by simp at hu; subst hu; rfl) (by simp only [maxLen]; omega) (by omega) (by rw [HSZ.out]; omega) ?_; intro v2 w11 hU3 hgr hat; obtain ⟨A2, c2, rfl⟩ := x0H hU3; have T12 := kH (HT11.out.snoc HO11.out hgr hU3); have R12 := kH (x06 HR11.out (fun k hk => hgr.block k (x02 HR11.out k hk) (fun e => x65 HR11.out HT11.out.1 (by decide) k hk e.symm))); have J12 := kH (HJ11.out.grown hgr (Ne.symm (x12 HT11.out.1 HJ11.out (by decide)))); have H12 := kH (HH11.out.appended hgr (fun k hk => mem_append_right _ (mem_append_left _ (mem_append_left _ (x00.2 hk)))) (fun k hk => by have := (kD HT11.out.1 k hk).1; have := H.out.size; omega) hat (fun k hk => (kD hU3 k hk).2)); have HG := kH hgr; clear hU3 hgr hat))
    | ((refine x0I rfl 42 (.tmp 57) (.tmp 55) rfl gj 5 176 _ (.slice A2 (done.length + 1) c2) rfl rfl J12.out (by simp [jcells]) (by kernel_rfl) rfl ?_; intro w12 hJ12 ho12 hs12; have q6 : w12.cell? ⟨gj, 6, none⟩ = some (.int .i64 v) := (hJ12.cell 6).trans (by simp [jcells]); have hwr3 : IntKind.i64.wrap ((v : Int) + (m : Int)) = (v : Int) + (m : Int) := (by rw [kI]; omega); have HJ12 := kH hJ12; have HO12 := kH ho12; clear hJ12 ho12))
    | (refine x0I rfl 3 (.tmp 65) (.tmp 63) rfl gj 6 176 _ (.int .i64 ((v : Int) + (m : Int))) rfl rfl HJ12.out (by simp [jcells]) (by kernel_rfl) rfl ?_; intro w13 hJ13 ho13 hs13))
   have hon := HO12.out.trans ho13 (kF _ _)
   have HVT := kH (show ∀ k, k < w.heap.size -> vt.ownBlock ≠ some k from fun k hk e => by have := (kD HT11.out.1 k e).1; omega)
   go_roundg rest'.length
   case measure => simp
   case rel =>
    have hs5 := B6.out.size
    have hs11 := HG.out.size
    rw [HSZ.out] at hs11
    have hkb : ∀ k, k < w11.heap.size -> k ≠ gj -> w13.heap[k]? = w11.heap[k]? := fun k hk hne => hon.block k hk (by simpa using hne)
    refine ⟨done ++ [t], rest', v + m, .slice A2 (done.length + 1) c2, us ++ [.slice B5 t.length c5], rfl, by rw [<- HDONE.out]; simp, HLS.out, by omega, by simp; omega, ?_, ?_, ?_, ?_, ?_, ?_⟩
    ·refine (H12.out.kept (j := gj) (by simp [hgj]) hon hgj0).mono (fun k hk => ?_)
     simp only [txBlks, mem_append, flatMap_append, flatMap_cons, flatMap_nil, append_nil] at hk ⊢
     rcases hk with (hk | hk | hk) | hk
     ·exact .inl hk
     ·exact .inr (.inr (.inl (.inr hk)))
     ·exact .inr (.inl (x4Z _ _ _ hk))
     ·exact .inr (.inr (.inr hk))
    ·have e : ((v + m : Nat) : Int) = (v : Int) + (m : Int) := by omega
     unfold jcells
     rw [e]
     simpa [jcells] using hJ13
    ·refine T12.out.of (fun k hk => hkb k (T12.out.over k hk).2 ?_)
     have := (T12.out.over k hk).1
     omega
    ·intro k hk hne
     rw [hkb k (by omega) hne, HG.out.block k (by rw [HSZ.out]; omega) (fun e => HVT.out k hk e.symm), HB11.out k (by omega), B6.out.block k (by omega)]
     exact HKEEP.out k hk hne
    ·have := hon.size; omega
    ·refine x06 R12.out (fun k hk => hkb k (x02 R12.out k hk) ?_)
     have := x0G R12.out k hk
     omega
theorem Holds.between {g' : Nat} {d' : DM} {X' : LN} (h : Holds w0 w g d X) (h' : Holds w0 w' g' d' X') (hs : w.heap.size <= w'.heap.size) (hb : ∀ k, k < w.heap.size -> w'.heap[k]? = w.heap[k]?) : Below w.heap.size w w' :=
  ⟨h'.since.os.trans h.since.os.symm, h'.since.tape.trans h.since.tape.symm, h'.since.output.trans h.since.output.symm, hs, hb⟩
structure Shows (d : DM) (n gen : Nat) (st : LN) (txs : List LN) (u : Nat) : Prop where
 fit : pn st <= areaOf n
 top : newestL (readL d 0 2) 2 = some ((gen : Int), (st.length : Int))
 parts : ∀ k s, k < pn st -> (readL d (stateAt n gen) (areaOf n))[k]? = some s -> isOf s.l 2 gen k = true /\ tD s.l = prow st k
 log : LogIs gen (readL d (logAt n) (logOf n)) 0 txs u
theorem xEO (h : Holds w0 w g d X) (hdn : d.n = n) (hn : n <= 4096) (hn8 : 8 <= n) (hup : d.gone = false) (hwt : d.wait.length <= 1000000)
 (hT : Tab w) (hw0 : 0 < w0.heap.size) (gen : Nat) (st : LN) (hst : st.length <= 100000) (txs : List LN) (u : Nat) (hs : Shows d n gen st txs u) :
  Calls prog 70 #[.pointer (some ⟨g, 0, none⟩)] w fun e w' => ∃ gj B cc vt us, e = .returned (.tuple #[.pointer (some ⟨gj, 0, none⟩), .nilIface]) /\ Holds w0 w' g d (txBlks vt us ++ (blkOf B ++ gj :: X)) ∧
   Blk w' gj 176 (jcells n g gen (.slice B st.length cc) vt u false) /\ Own w' w.heap.size (.slice B st.length cc) st.length st /\ TxRows w' w.heap.size vt txs us /\ Below w.heap.size w w' /\ w.heap.size <= gj := by
 have hpos : 0 < w.heap.size := kL hw0 h.size
 have H := kH h
 have HT := kH hT
 have HS := kH hs
 have hz := x7G
 have hz2 := x8R
 clear h hT hs
 go_enter func70, ntmps70
 go_wp2_with fail
 refine (x4J H.out).mono ?_
 rintro e w' ⟨rfl, rfl⟩
 rw [hdn]
 have hd8 : decide ((n : Int) < 8) = false := by simp; omega
 have hd8' : decide (n < 8) = false := by simp; omega
 go_wp2_with fail
 refine (x4J H.out).mono ?_
 rintro e w' ⟨rfl, rfl⟩
 rw [hdn]
 go_wp2_with fail
 refine (x6W n w (by omega) hn).mono ?_
 rintro e w1 ⟨rfl, b1⟩
 go_wp2_with fail
 have hjb := kW w1 176 (jcells n g 0 (.slice none 0 0) (.slice none 0 0) 0 false)
 have hB2 := b1.alloc b1.size (.cells (jcells n g 0 (.slice none 0 0) (.slice none 0 0) 0 false) 176)
 have hH2 := H.out.more (Y := [w1.heap.size]) hB2 (fun k hk => by simp at hk; subst hk; exact ⟨b1.size, by simp⟩)
 have hgs := b1.size
 have JB := kH hjb
 have B2 := kH hB2
 have H2 := kH hH2
 have hsz2 : (w1.alloc (.cells (jcells n g 0 (.slice none 0 0) (.slice none 0 0) 0 false) 176)).heap.size = w1.heap.size + 1 := by simp
 unfold jcells at *
 generalize hw2 : w1.alloc (.cells #[.int .i64 (areaOf n), .int .i64 (logOf n), .pointer (some ⟨g, 0, none⟩), .int .i64 (0 : Nat), .slice none 0 0, .slice none 0 0, .int .i64 (0 : Nat), .bool false] 176) = w2 at *
 generalize hgj : w1.heap.size = gj at *
 clear hw2 hjb hB2 hH2 b1 hz hgj
 refine (xAQ H2.out JB.out (by simp) (kT H.out.size hgs) hdn hn hn8 hup hwt (x0O HT.out B2.out hpos) hw0 gen st hst HS.out.fit HS.out.top HS.out.parts).mono ?_
 rintro e w3 ⟨B, cc, rfl, h3, k3, j3, o3, e3, s3⟩
 have H3 := kH h3
 have J3 := kH j3
 have O3 := kH o3
 have K3 := kH k3
 have hblk3 : ∀ k, k < w.heap.size -> w3.heap[k]? = w.heap[k]? := fun k hk => (e3 k (by have := B2.out.size; omega) (by omega)).trans (B2.out.block k hk)
 have E3 := kH hblk3
 clear h3 k3 j3 o3 e3 hblk3
 go_wp2_with fail
 refine (xE7 H3.out J3.out (by simp) (kT H.out.size hgs) hdn hn hn8 hup hwt (fun i hi => (World.cell?_of_block (E3.out 0 hpos)).trans (HT.out i hi)) hw0 txs u HS.out.log).mono ?_
 rintro e w4 ⟨vt, us, rfl, h4, k4, j4, t4, e4, s4⟩
 have H4 := kH h4
 have J4 := kH j4
 have T4 := kH t4
 have hszb := B2.out.size
 have O4 := kH (x06 O3.out (w' := w4) (fun k hk => e4 k (x02 O3.out k hk) (by have := x0G O3.out k hk; omega)))
 have hbl : Below w.heap.size w w4 := H.out.between H4.out (by omega) (fun k hk => (e4 k (by omega) (by omega)).trans (E3.out k hk))
 go_wp2
 go_ret2
 exact ⟨gj, B, cc, vt, us, rfl, H4.out, J4.out, x0B O4.out (by omega), T4.out.weaken (by omega), hbl, hgs⟩
def DM.idle (n : Nat) (f : Int -> Sec) (s l : Nat) : DM := ⟨n, f, [], s, false, l, false⟩
noncomputable def putF : (Int -> Sec) -> Nat -> List Sec -> (Int -> Sec)
 | f, _, [] => f
 | f, i, s :: ss => putF (upd f ((i : Int), s)) (i + 1) ss
theorem x0M : ∀ (ss : List Sec) (f : Int -> Sec) (i : Nat) (j : Int), (j < i ∨ (i : Int) + ss.length <= j) -> putF f i ss j = f j
 | [], f, i, j, h => rfl
 | s :: ss, f, i, j, h => by
  rw [putF, x0M ss _ (i + 1) j (by simp only [length_cons] at h; omega)]
  unfold upd
  rw [if_neg]
  simp only [length_cons] at h
  show j ≠ (i : Int)
  omega
theorem x3F : ∀ (ss : List Sec) (f : Int -> Sec) (i k : Nat) (s : Sec), ss[k]? = some s -> putF f i ss ((i + k : Nat) : Int) = s
 | [], f, i, k, s, h => by simp at h
 | t :: ss, f, i, 0, s, h => by
  rw [putF, x0M ss _ (i + 1) _ (by omega)]
  simp at h
  subst h
  unfold upd
  exact if_pos rfl
 | t :: ss, f, i, k + 1, s, h => by
  rw [putF, show i + (k + 1) = i + 1 + k by omega]
  exact x3F ss _ (i + 1) k s (by simpa using h)
def waitsOf : Nat -> List Sec -> List (Int × Sec)
 | _, [] => []
 | i, s :: ss => ((i : Int), s) :: waitsOf (i + 1) ss
theorem x26 : ∀ (ss : List Sec) (i m : Nat) (f : Int -> Sec), settled (fun _ => true) m (waitsOf i ss) f = putF f i ss
 | [], i, m, f => rfl
 | s :: ss, i, m, f => by
  rw [waitsOf, putF]
  show settled _ (m + 1) (waitsOf (i + 1) ss) _ = _
  rw [x26 ss (i + 1) (m + 1)]
  rfl
theorem xB2 : ∀ (ss : List Sec) (n i s l : Nat) (f : Int -> Sec) (wt : List (Int × Sec)), i + ss.length <= n →
  (⟨n, f, wt, s, false, l, false⟩ : DM).putRow i ss = (⟨n, settled (fun _ => true) 0 (wt ++ waitsOf i ss) f, [], s + ss.length + 1, false, l, false⟩, 0)
 | [], n, i, s, l, f, wt, h => by
  simp only [DM.putRow, DM.flush, DM.stepErr, DM.off, DM.step, DM.settle, waitsOf, append_nil, length_nil, Nat.add_zero, Bool.false_or, Bool.false_and, Bool.false_eq_true, if_false]
 | x :: ss, n, i, s, l, f, wt, h => by
  simp only [length_cons] at h
  have h1 : (⟨n, f, wt, s, false, l, false⟩ : DM).has (i : Int) = true := by simp [DM.has]; omega
  have h2 : (⟨n, f, wt, s, false, l, false⟩ : DM).writeErr (i : Int) = 0 := by
   unfold DM.writeErr
   rw [h1]
   simp [DM.off]
  have h3 : (⟨n, f, wt, s, false, l, false⟩ : DM).write (i : Int) x = ⟨n, f, wt ++ [((i : Int), x)], s + 1, false, l, false⟩ := by
   unfold DM.write
   rw [h1]
   simp [DM.off, DM.step]
  rw [DM.putRow, h2, if_pos rfl, h3, xB2 ss n (i + 1) (s + 1) l f _ (by omega)]
  simp only [waitsOf, append_assoc, singleton_append, length_cons]
  rw [show s + 1 + ss.length + 1 = s + (ss.length + 1) + 1 by omega]
theorem x4A (n s l i : Nat) (f : Int -> Sec) (ss : List Sec) (h : i + ss.length <= n) : (DM.idle n f s l).putRow i ss = (DM.idle n (putF f i ss) (s + ss.length + 1) l, 0) := by
 unfold DM.idle
 rw [xB2 ss n i s l f [] h, nil_append, x26]
noncomputable def ckptF (n : Nat) (f : Int -> Sec) (g : Nat) (st : LN) : Int -> Sec := putF (putF f (stateAt n g) (bodyS 2 g 0 st)) (g % 2) (topS g st)
noncomputable def appF (n : Nat) (f : Int -> Sec) (g u : Nat) (tx : LN) : Int -> Sec := putF (putF f (logAt n + u) (bodyS 3 g u tx)) (logAt n + (u + pn tx)) (endS g (u + pn tx) (pn tx))
noncomputable def fmtF (n : Nat) (f : Int -> Sec) (st : LN) : Int -> Sec := ckptF n (putF f 0 [Sec.zero, Sec.zero]) 1 st
theorem xAS (h8 : 8 <= n) : stateAt n g + areaOf n <= n := by
 unfold stateAt areaOf
 have : g % 2 = 0 ∨ g % 2 = 1 := by omega
 rcases this with h | h <;> rw [h] <;> omega
theorem x2V (n g : Nat) : 2 <= stateAt n g /\ stateAt n g + areaOf n <= logAt n := by
 unfold stateAt logAt
 have : g % 2 = 0 ∨ g % 2 = 1 := by omega
 rcases this with h | h <;> rw [h] <;> omega
theorem x9U (h8 : 8 <= n) : logAt n + logOf n = n := by unfold logAt logOf areaOf; omega
theorem xBI (n s l g : Nat) (f : Int -> Sec) (st : LN) (h8 : 8 <= n) (hf : pn st <= areaOf n) : (DM.idle n f s l).ckpt n g st = (DM.idle n (ckptF n f g st) (s + pn st + 3) l, 0) := by
 have h1 := xAS (g := g) h8
 have e := x4A n s l (stateAt n g) f (bodyS 2 g 0 st) (by rw [x0E]; omega)
 rw [x0E] at e
 unfold DM.ckpt
 rw [e, if_pos rfl]
 show (DM.idle n _ _ l).putRow (g % 2) (topS g st) = _
 rw [x4A n _ l (g % 2) _ (topS g st) (by simp [topS]; omega)]
 rfl
theorem xMY (n s l g u : Nat) (f : Int -> Sec) (tx : LN) (h8 : 8 <= n) (hf : u + pn tx + 1 <= logOf n) : (DM.idle n f s l).app n g u tx = (DM.idle n (appF n f g u tx) (s + pn tx + 3) l, 0) := by
 have h1 := x9U h8
 have e := x4A n s l (logAt n + u) f (bodyS 3 g u tx) (by rw [x0E]; omega)
 rw [x0E] at e
 unfold DM.app
 rw [e, if_pos rfl]
 show (DM.idle n _ _ l).putRow _ _ = _
 rw [x4A n _ l _ _ (endS g (u + pn tx) (pn tx)) (by simp [endS]; omega)]
 rfl
theorem xNA (n s l : Nat) (f : Int -> Sec) (st : LN) (h8 : 8 <= n) (hf : pn st <= areaOf n) : (DM.idle n f s l).putRow 0 [Sec.zero, Sec.zero] = (DM.idle n (putF f 0 [Sec.zero, Sec.zero]) (s + 3) l, 0) /\ ((DM.idle n f s l).putRow 0 [Sec.zero, Sec.zero]).1.ckpt n 1 st = (DM.idle n (fmtF n f st) (s + pn st + 6) l, 0) := by
 have e := x4A n s l 0 f [Sec.zero, Sec.zero] (by simp; omega)
 refine ⟨e, ?_⟩
 rw [e]
 show (DM.idle n _ _ l).ckpt n 1 st = _
 rw [xBI n _ l 1 _ st h8 hf]
 simp only [length_cons, length_nil]
 rw [show s + (0 + 1 + 1) + 1 + pn st + 3 = s + pn st + 6 by omega]
 rfl
theorem xI4 (n s l : Nat) (f : Int -> Sec) (keep : List Bool) : (DM.idle n f s l).crash keep = DM.idle n f s 0 := rfl
theorem xLD (n s l : Nat) (f : Int -> Sec) (i : Nat) (h : i < n) : (DM.idle n f s l).read (i : Int) = f i := by
 have h1 : (DM.idle n f s l).has (i : Int) = true := by simp [DM.idle, DM.has]; omega
 unfold DM.read
 rw [h1]
 simp [DM.idle, lastOf]
theorem xD1 (n : Nat) : DM.new n = DM.idle n (fun _ => Sec.zero) 0 0 := rfl
theorem x6E {l a m : Nat} {f : Int -> Sec} (ha : a + m <= n) (hk : k < m) : (readL (DM.idle n f s l) a m)[k]? = some (f ((a + k : Nat) : Int)) := by
 unfold readL
 rw [List.getElem?_map, List.getElem?_range hk]
 show some (readRow _ a m k) = _
 unfold readRow
 rw [if_pos hk, show (a : Int) + (k : Int) = ((a + k : Nat) : Int) by omega, xLD n s l f (a + k) (by omega)]
theorem x1U {k g n : Int} {d : LN} (hb : isBoxB k g n = true) (hl : d.length <= 106) (h : ∀ b ∈ d, b < 256) (k' g' n' : Int) : isOf (sealRes k g n d).l k' g' n' = decide (k = k' /\ g = g' /\ n = n') := by
 obtain ⟨h1, h2, h3, h4, h5⟩ := x4U k g n d hb hl
 unfold isOf
 rw [x6Z hb hl h, x6G k g n d hb hl, h1, h2, h3, Bool.true_and]
theorem xAX {k g n : Int} {d : LN} (hb : isBoxB k g n = true) (hl : d.length <= 106) (h : ∀ b ∈ d, b < 256) : tD (sealRes k g n d).l = d := by
 rw [x6Z hb hl h]
 exact (x4U k g n d hb hl).2.2.2.2
theorem x9R (z : Int) : isNum (numB z) = true := by simp [isNum, x04]
theorem xCV {z : Nat} (hg : g <= 4611686018427387904) (hz : z <= 4611686018427387904) : topOf (sealRes 1 g 0 (numB z)) = some ((g : Int), (z : Int)) := by
 have hb : isBoxB 1 (g : Int) 0 = true := by simp [isBoxB]; omega
 have hl : (numB (z : Int)).length <= 106 := by rw [x04]; omega
 obtain ⟨h1, h2, h3, h4, h5⟩ := x4U 1 (g : Int) 0 (numB (z : Int)) hb hl
 unfold topOf
 rw [x6Z hb hl (x0Y _), x6G 1 _ 0 _ hb hl, h1, h2, h3, h5, x9R, x3X _ (by omega) (by omega), if_pos ⟨rfl, rfl, rfl, rfl, by omega⟩]
theorem xP1 : tK (List.replicate 128 0) = 0 := by rfl
theorem x8H : isSealed Sec.zero.l = false := by
 show isSealed (List.replicate 128 0) = false
 unfold isSealed
 rw [xP1]
 simp [isBoxB]
theorem xMB : topOf Sec.zero = none := by
 unfold topOf
 rw [x8H]
 simp
theorem xGD (k g n : Int) : isOf Sec.zero.l k g n = false := by
 unfold isOf
 rw [x8H]
 rfl
theorem x80 {first : Nat} {d : LN} {i : Nat} (hi : i < pn d) : (bodyS k g first d)[i]? = some (sealRes k g ((first : Int) + (i : Int)) (prow d i)) := by
 unfold bodyS
 rw [List.getElem?_map, List.getElem?_range hi]
 rfl
noncomputable def LogF (f : Int -> Sec) (n gen : Nat) : Nat -> List LN -> Nat -> Prop
 | v, [], u => v = u
 | v, t :: l, u => t ≠ [] /\ (∀ b ∈ t, b < 256) /\ (∀ k, k < pn t -> f ((logAt n + (v + k) : Nat) : Int) = sealRes 3 gen ((v : Int) + (k : Int)) (prow t k)) /\ f ((logAt n + (v + pn t) : Nat) : Int) = sealRes 4 gen ((v + pn t : Nat) : Int) (numB (pn t)) /\ LogF f n gen (v + pn t + 1) l u
structure JOk (f : Int -> Sec) (n gen : Nat) (st : LN) (txs : List LN) (u : Nat) : Prop where
 n8 : 8 <= n
 nle : n <= 4096
 fit : pn st <= areaOf n
 gle : gen <= 4611686018427387000
 s256 : ∀ b ∈ st, b < 256
 slen : st.length <= 20000
 top : topOf (f ((gen % 2 : Nat) : Int)) = some ((gen : Int), (st.length : Int))
 alt : ∀ g z, topOf (f (((gen + 1) % 2 : Nat) : Int)) = some (g, z) -> g < gen
 parts : ∀ k, k < pn st -> f ((stateAt n gen + k : Nat) : Int) = sealRes 2 gen (k : Int) (prow st k)
 log : LogF f n gen 0 txs u
 ule : u <= logOf n
 old : ∀ p, u <= p -> p < logOf n -> ∀ g : Int, (gen : Int) <= g -> isOf (f ((logAt n + p : Nat) : Int)).l 3 g (p : Int) = false
theorem LogF.le {f : Int -> Sec} : ∀ (l : List LN) (v u : Nat), LogF f n gen v l u -> v + 2 * l.length <= u
 | [], v, u, h => Nat.le_of_eq h
 | t :: l, v, u, h => by
  have h1 := LogF.le l _ u h.2.2.2.2
  have h2 : 0 < pn t := by have := length_pos_iff.2 h.1; unfold pn; omega
  simp only [length_cons]
  omega
theorem LogF.frame {f f' : Int -> Sec} : ∀ (l : List LN) (v u : Nat), LogF f n gen v l u -> (∀ p, v <= p -> p < u -> f' ((logAt n + p : Nat) : Int) = f ((logAt n + p : Nat) : Int)) -> LogF f' n gen v l u
 | [], v, u, h, _ => h
 | t :: l, v, u, h, hk => by
  have h1 := LogF.le l _ u h.2.2.2.2
  refine ⟨h.1, h.2.1, fun k hkt => ?_, ?_, LogF.frame l _ u h.2.2.2.2 (fun p h1 h2 => hk p (by omega) h2)⟩
  ·rw [hk (v + k) (by omega) (by omega)]; exact h.2.2.1 k hkt
  ·rw [hk (v + pn t) (by omega) (by omega)]; exact h.2.2.2.1
theorem LogF.snoc {f : Int -> Sec} {n gen : Nat} {t : LN} : ∀ (l : List LN) (v u u' : Nat), LogF f n gen v l u -> LogF f n gen u [t] u' -> LogF f n gen v (l ++ [t]) u'
 | [], v, u, u', h, h' => by obtain rfl : v = u := h; exact h'
 | x :: l, v, u, u', h, h' => ⟨h.1, h.2.1, h.2.2.1, h.2.2.2.1, LogF.snoc l _ u u' h.2.2.2.2 h'⟩
theorem LogF.none {f : Int -> Sec} (hg : gen <= 4611686018427387000) : ∀ (l : List LN) (v u : Nat), LogF f n gen v l u -> u <= 100000 -> ∀ p, v <= p -> p < u -> ∀ g : Int, (gen : Int) < g -> isOf (f ((logAt n + p : Nat) : Int)).l 3 g (p : Int) = false
 | [], v, u, h, _, p, h1, h2, g, hgg => by have : v = u := h; omega
 | t :: l, v, u, h, hu, p, h1, h2, g, hgg => by
  have hle := LogF.le l _ u h.2.2.2.2
  by_cases hp : p < v + pn t
  ·obtain ⟨k, rfl⟩ : ∃ k, p = v + k := ⟨p - v, by omega⟩
   rw [h.2.2.1 k (by omega), x1U (by simp [isBoxB]; omega) (x1I _ _) (x3D h.2.1 _)]
   simp
   omega
  ·by_cases hp2 : p = v + pn t
   ·subst hp2
    rw [h.2.2.2.1, x1U (by simp [isBoxB]; omega) (by rw [x04]; omega) (x0Y _)]
    simp
   ·exact LogF.none hg l _ u h.2.2.2.2 hu p (by omega) h2 g hgg
theorem JOk.format (h8 : 8 <= n) (hn : n <= 4096) (hf : pn st <= areaOf n) (h256 : ∀ b ∈ st, b < 256) (hl : st.length <= 20000) : JOk (fmtF n (fun _ => Sec.zero) st) n 1 st [] 0 := by
 have ha := x2V n 1
 have h0 : ∀ j : Int, putF (fun _ => Sec.zero) 0 [Sec.zero, Sec.zero] j = Sec.zero := fun j => by
  simp only [putF, upd]
  split
  ·rfl
  ·split <;> rfl
 refine ⟨h8, hn, hf, by omega, h256, hl, ?_, ?_, ?_, rfl, by omega, ?_⟩
 ·unfold fmtF ckptF
  have := x3F (topS 1 st) (putF (putF (fun _ => Sec.zero) 0 [Sec.zero, Sec.zero]) (stateAt n 1) (bodyS 2 1 0 st)) (1 % 2) 0 _ rfl
  rw [show (1 % 2 + 0 : Nat) = 1 % 2 from rfl] at this
  rw [this]
  exact xCV (g := 1) (by omega) (by omega)
 ·intro g z hgz
  exfalso
  unfold fmtF ckptF at hgz
  rw [x0M _ _ _ _ (by simp [topS]), x0M _ _ _ _ (by left; simp; omega), h0, xMB] at hgz
  cases hgz
 ·intro k hk
  unfold fmtF ckptF
  rw [x0M _ _ _ _ (by right; simp [topS]; omega), x3F (bodyS 2 1 0 st) _ (stateAt n 1) k _ (x80 hk)]
  simp
 ·intro p _ hp g hg
  unfold fmtF ckptF
  rw [x0M _ _ _ _ (by right; simp [topS]; omega), x0M _ _ _ _ (by right; rw [x0E]; omega), h0]
  exact xGD _ _ _
theorem JOk.ckpt {f : Int -> Sec} (h : JOk f n gen st txs u) (hf : pn st' <= areaOf n) (h256 : ∀ b ∈ st', b < 256) (hl : st'.length <= 20000) (hg : gen + 1 <= 4611686018427387000) : JOk (ckptF n f (gen + 1) st') n (gen + 1) st' [] 0 := by
 have ha := x2V n (gen + 1)
 have hlo : logOf n <= 4096 := by have := h.nle; unfold logOf; omega
 refine ⟨h.n8, h.nle, hf, hg, h256, hl, ?_, ?_, ?_, rfl, by omega, ?_⟩
 ·unfold ckptF
  have := x3F (topS (gen + 1) st') (putF f (stateAt n (gen + 1)) (bodyS 2 (gen + 1) 0 st')) ((gen + 1) % 2) 0 _ rfl
  rw [show ((gen + 1) % 2 + 0 : Nat) = (gen + 1) % 2 from rfl] at this
  rw [this]
  exact xCV (g := gen + 1) (by omega) (by omega)
 ·intro g z hgz
  unfold ckptF at hgz
  rw [x0M _ _ _ _ (by simp [topS]; omega), x0M _ _ _ _ (by left; omega), show (gen + 1 + 1) % 2 = gen % 2 by omega, h.top] at hgz
  injection hgz with hgz
  injection hgz with hgz
  omega
 ·intro k hk
  unfold ckptF
  rw [x0M _ _ _ _ (by right; simp [topS]; omega), x3F (bodyS 2 (gen + 1) 0 st') _ (stateAt n (gen + 1)) k _ (x80 hk)]
  simp
 ·intro p _ hp g hgg
  unfold ckptF
  rw [x0M _ _ _ _ (by right; simp [topS]; omega), x0M _ _ _ _ (by right; rw [x0E]; omega)]
  by_cases hpu : p < u
  ·exact LogF.none h.gle txs 0 u h.log (by have := h.ule; omega) p (by omega) hpu g (by omega)
  ·exact h.old p (by omega) hp g (by omega)
theorem JOk.app {f : Int -> Sec} (h : JOk f n gen st txs u) (hne : tx ≠ []) (h256 : ∀ b ∈ tx, b < 256) (hf : u + pn tx + 1 <= logOf n) : JOk (appF n f gen u tx) n gen st (txs ++ [tx]) (u + pn tx + 1) := by
 have ha := x2V n gen
 have hlow : ∀ j : Int, j < (logAt n + u : Nat) -> appF n f gen u tx j = f j := fun j hj => by
  unfold appF
  rw [x0M _ _ _ _ (by left; omega), x0M _ _ _ _ (by left; omega)]
 have hhigh : ∀ p, u + pn tx + 1 <= p -> appF n f gen u tx ((logAt n + p : Nat) : Int) = f ((logAt n + p : Nat) : Int) := fun p hp => by
  unfold appF
  rw [x0M _ _ _ _ (by right; simp [endS]; omega), x0M _ _ _ _ (by right; rw [x0E]; omega)]
 refine ⟨h.n8, h.nle, h.fit, h.gle, h.s256, h.slen, ?_, ?_, ?_, ?_, hf, ?_⟩
 ·rw [hlow _ (by unfold logAt; omega)]; exact h.top
 ·rw [hlow _ (by unfold logAt; omega)]; exact h.alt
 ·intro k hk
  have := h.fit
  rw [hlow _ (by omega)]; exact h.parts k hk
 ·refine LogF.snoc txs 0 u _ (LogF.frame txs 0 u h.log (fun p _ hp => hlow _ (by omega))) ⟨hne, h256, fun k hk => ?_, ?_, rfl⟩
  ·unfold appF
   rw [x0M _ _ _ _ (by left; omega), show logAt n + (u + k) = logAt n + u + k by omega, x3F (bodyS 3 gen u tx) _ (logAt n + u) k _ (x80 hk)]
   rfl
  ·unfold appF
   have := x3F (endS gen (u + pn tx) (pn tx)) (putF f (logAt n + u) (bodyS 3 gen u tx)) (logAt n + (u + pn tx)) 0 _ rfl
   rw [Nat.add_zero] at this
   exact this
 ·intro p hp hpl g hg
  rw [hhigh p hp]
  exact h.old p (by omega) hpl g hg
theorem x9T {v : Nat} {t : LN} (hg : g <= 4611686018427387000) (hv : v + pn t <= 100000) (h256 : ∀ b ∈ t, b < 256) (hne : t ≠ []) (ss : List Sec) (hb : ∀ k, k < pn t -> ss[v + k]? = some (sealRes 3 g ((v : Int) + (k : Int)) (prow t k))) (he : ss[v + pn t]? = some (sealRes 4 g ((v + pn t : Nat) : Int) (numB (pn t)))) :
  ∀ m k, k + m = pn t -> standF g v (ss.drop (v + k)) k (t.take (106 * k)) = some (t, pn t + 1)
 | 0, k, hk => by
  obtain rfl : k = pn t := by omega
  have hdrop : ss.drop (v + pn t) = sealRes 4 g ((v + pn t : Nat) : Int) (numB (pn t)) :: ss.drop (v + pn t + 1) := by
   obtain ⟨hl, hx⟩ := List.getElem?_eq_some_iff.1 he
   rw [drop_eq_getElem_cons hl, hx]
  have hpos : 0 < pn t := by have := length_pos_iff.2 hne; unfold pn; omega
  have hbox : isBoxB 4 (g : Int) ((v + pn t : Nat) : Int) = true := by simp [isBoxB]; omega
  have htk : t.take (106 * pn t) = t := take_of_length_le (by unfold pn; omega)
  rw [hdrop, htk]
  unfold standF
  have hsum : ((v : Int) + (pn t : Int)) = ((v + pn t : Nat) : Int) := by omega
  rw [hsum, x1U hbox (by rw [x04]; omega) (x0Y _), if_neg (by simp), if_pos]
  refine ⟨hpos, ?_⟩
  unfold endOf
  rw [x1U hbox (by rw [x04]; omega) (x0Y _), xAX hbox (by rw [x04]; omega) (x0Y _), x9R, x3X _ (by omega) (by omega)]
  simp
 | m + 1, k, hk => by
  have hx := hb k (by omega)
  have hdrop : ss.drop (v + k) = sealRes 3 g ((v : Int) + (k : Int)) (prow t k) :: ss.drop (v + k + 1) := by
   obtain ⟨hl, hx⟩ := List.getElem?_eq_some_iff.1 hx
   rw [drop_eq_getElem_cons hl, hx]
  have hbox : isBoxB 3 (g : Int) ((v : Int) + (k : Int)) = true := by simp [isBoxB]; omega
  rw [hdrop]
  unfold standF
  rw [x1U hbox (x1I _ _) (x3D h256 _), if_pos (by simp), xAX hbox (x1I _ _) (x3D h256 _), <- xBF]
  exact x9T hg hv h256 hne ss hb he m (k + 1) (by omega)
theorem xID {a b : Sec} {z : Int} (h : (gen % 2 = 0 /\ topOf a = some ((gen : Int), z) /\ ∀ g z', topOf b = some (g, z') -> g < gen) ∨ (gen % 2 = 1 /\ topOf b = some ((gen : Int), z) /\ ∀ g z', topOf a = some (g, z') -> g < gen)) : newestL [a, b] 2 = some ((gen : Int), z) := by
  show pickTop (pickTop none 0 a) 1 b = _
  rcases h with ⟨hm, h1, h2⟩ | ⟨hm, h1, h2⟩
  · have e1 : pickTop none 0 a = some ((gen : Int), z) := by
      unfold pickTop
      rw [h1]
      exact if_pos ⟨by omega, fun x hx => by cases hx⟩
    rw [e1]
    unfold pickTop
    cases hb : topOf b with
    | none => rfl
    | some x =>
      obtain ⟨g, z'⟩ := x
      have := h2 g z' hb
      simp only
      rw [if_neg]
      rintro ⟨_, h3⟩
      have := h3 _ rfl
      omega
  · have e1 : ∀ x, pickTop none 0 a = some x -> x.1 < gen := by
      intro x hx
      unfold pickTop at hx
      cases ha : topOf a with
      | none => rw [ha] at hx; cases hx
      | some y =>
        obtain ⟨g, z'⟩ := y
        rw [ha] at hx
        simp only at hx
        split at hx
        · injection hx with hx
          subst hx
          exact h2 g z' ha
        · cases hx
    generalize pickTop none 0 a = acc at *
    unfold pickTop
    rw [h1]
    exact if_pos ⟨by omega, e1⟩
def DM.arms (n : Nat) (f : Int -> Sec) (s l : Nat) : DM := ⟨n, f, [], s, true, l, false⟩
def DM.fell (n : Nat) (f : Int -> Sec) (wt : List (Int × Sec)) (s : Nat) : DM := ⟨n, f, wt, s, true, 0, true⟩
theorem x5I : ∀ (ss : List Sec) (n i s l : Nat) (f : Int -> Sec) (wt : List (Int × Sec)), i + ss.length <= n →
    (ss.length + 1 <= l -> (⟨n, f, wt, s, true, l, false⟩ : DM).putRow i ss = (⟨n, settled (fun _ => true) 0 (wt ++ waitsOf i ss) f, [], s + ss.length + 1, true, l - (ss.length + 1), false⟩, 0)) ∧
    (l <= ss.length -> (⟨n, f, wt, s, true, l, false⟩ : DM).putRow i ss = (⟨n, f, wt ++ waitsOf i (ss.take l), s + l, true, 0, true⟩, 3))
  | [], n, i, s, l, f, wt, h => by
    constructor
    · intro hl
      have h0 : ¬ l = 0 := by simp at hl; omega
      simp [DM.putRow, DM.flush, DM.stepErr, DM.off, DM.step, DM.settle, waitsOf, h0]
    · intro hl
      obtain rfl : l = 0 := by simp at hl; exact hl
      simp [DM.putRow, DM.flush, DM.stepErr, DM.off, DM.step, waitsOf]
  | x :: ss, n, i, s, l, f, wt, h => by
    simp only [length_cons] at h
    have h1 : (⟨n, f, wt, s, true, l, false⟩ : DM).has (i : Int) = true := by simp [DM.has]; omega
    by_cases hl0 : l = 0
    · subst hl0
      refine ⟨fun hl => absurd hl (by simp), fun _ => ?_⟩
      have h2 : (⟨n, f, wt, s, true, 0, false⟩ : DM).writeErr (i : Int) = 3 := by
        unfold DM.writeErr
        rw [h1]
        simp [DM.off]
      have h3 : (⟨n, f, wt, s, true, 0, false⟩ : DM).write (i : Int) x = ⟨n, f, wt, s, true, 0, true⟩ := by
        unfold DM.write
        rw [h1]
        simp [DM.off, DM.step]
      rw [DM.putRow, h2, if_neg (by omega), h3]
      simp [waitsOf]
    · have h2 : (⟨n, f, wt, s, true, l, false⟩ : DM).writeErr (i : Int) = 0 := by
        unfold DM.writeErr
        rw [h1]
        simp [DM.off, hl0]
      have h3 : (⟨n, f, wt, s, true, l, false⟩ : DM).write (i : Int) x = ⟨n, f, wt ++ [((i : Int), x)], s + 1, true, l - 1, false⟩ := by
        unfold DM.write
        rw [h1]
        simp [DM.off, DM.step, hl0]
      obtain ⟨a, b⟩ := x5I ss n (i + 1) (s + 1) (l - 1) f (wt ++ [((i : Int), x)]) (by omega)
      rw [DM.putRow, h2, if_pos rfl, h3]
      constructor
      · intro hl
        simp only [length_cons] at hl
        rw [a (by omega)]
        simp only [waitsOf, append_assoc, singleton_append, length_cons]
        rw [show s + 1 + ss.length + 1 = s + (ss.length + 1) + 1 by omega, show l - 1 - (ss.length + 1) = l - (ss.length + 1 + 1) by omega]
      · intro hl
        simp only [length_cons] at hl
        obtain ⟨m, rfl⟩ : ∃ m, l = m + 1 := ⟨l - 1, by omega⟩
        rw [Nat.add_sub_cancel] at b ⊢
        rw [b (by omega)]
        simp only [waitsOf, append_assoc, singleton_append, take_succ_cons]
        rw [show s + 1 + m = s + (m + 1) by omega]
theorem x39 (n s l i : Nat) (f : Int -> Sec) (ss : List Sec) (h : i + ss.length <= n) (hl : ss.length + 1 <= l) : (DM.arms n f s l).putRow i ss = (DM.arms n (putF f i ss) (s + ss.length + 1) (l - (ss.length + 1)), 0) := by
 unfold DM.arms
 rw [(x5I ss n i s l f [] h).1 hl, nil_append, x26]
theorem x4W (n s l i : Nat) (f : Int -> Sec) (ss : List Sec) (h : i + ss.length <= n) (hl : l <= ss.length) : (DM.arms n f s l).putRow i ss = (DM.fell n f (waitsOf i (ss.take l)) (s + l), 3) := by
 unfold DM.arms
 rw [(x5I ss n i s l f [] h).2 hl, nil_append]
 rfl
theorem x1R (n s : Nat) (f : Int -> Sec) (wt : List (Int × Sec)) (keep : List Bool) : (DM.fell n f wt s).crash keep = DM.idle n (settled (keptOf keep) 0 wt f) s 0 := rfl
theorem x4D (kept : Nat -> Bool) : ∀ (ss : List Sec) (i m : Nat) (f : Int -> Sec) (j : Int), settled kept m (waitsOf i ss) f j = f j ∨ ∃ k s, ss[k]? = some s /\ j = ((i + k : Nat) : Int) /\ settled kept m (waitsOf i ss) f j = s
 | [], i, m, f, j => .inl rfl
 | x :: ss, i, m, f, j => by
  show settled kept (m + 1) (waitsOf (i + 1) ss) (if kept m then upd f ((i : Int), x) else f) j = _ ∨ _
  rcases x4D kept ss (i + 1) (m + 1) (if kept m then upd f ((i : Int), x) else f) j with h | ⟨k, s, h1, h2, h3⟩
  ·rw [h]
   by_cases hk : kept m = true
   ·rw [if_pos hk]
    by_cases hj : j = (i : Int)
    ·right
     refine ⟨0, x, rfl, by rw [hj]; rfl, ?_⟩
     show settled kept (m + 1) (waitsOf (i + 1) ss) (if kept m then upd f ((i : Int), x) else f) j = _
     rw [h, if_pos hk]
     unfold upd
     exact if_pos hj
    ·left
     unfold upd
     exact if_neg hj
   ·left
    rw [if_neg hk]
  ·exact .inr ⟨k + 1, s, by simpa using h1, by rw [h2]; omega, h3⟩
structure JShow (f : Int -> Sec) (n gen : Nat) (st : LN) (txs : List LN) (u : Nat) : Prop where
 n8 : 8 <= n
 nle : n <= 4096
 fit : pn st <= areaOf n
 gle : gen <= 4611686018427387000
 s256 : ∀ b ∈ st, b < 256
 slen : st.length <= 20000
 top : topOf (f ((gen % 2 : Nat) : Int)) = some ((gen : Int), (st.length : Int))
 alt : ∀ g z, topOf (f (((gen + 1) % 2 : Nat) : Int)) = some (g, z) -> g < gen
 parts : ∀ k, k < pn st -> f ((stateAt n gen + k : Nat) : Int) = sealRes 2 gen (k : Int) (prow st k)
 log : LogF f n gen 0 txs u
 ule : u <= logOf n
 ends : ∀ p, u <= p -> p < logOf n -> isOf (f ((logAt n + p : Nat) : Int)).l 4 gen (p : Int) = false
theorem x9M {g : Int} {p : Nat} : ∀ (l : List Sec) (k : Nat) (tx : LN), (∀ i s, l[i]? = some s -> isOf s.l 4 g ((p : Int) + ((k + i : Nat) : Int)) = false) -> standF g p l k tx = none
 | [], k, tx, h => rfl
 | s :: l, k, tx, h => by
  have h0 := h 0 s rfl
  have hn := x9M l (k + 1) (tx ++ tD s.l) (fun i s' hi => by
   have := h (i + 1) s' (by simpa using hi)
   rwa [show k + (i + 1) = k + 1 + i by omega] at this)
  unfold standF
  split
  ·exact hn
  ·rw [if_neg]
   rintro ⟨_, he⟩
   unfold endOf at he
   rw [show (p : Int) + ((k + 0 : Nat) : Int) = (p : Int) + (k : Int) by omega] at h0
   rw [h0] at he
   cases he
theorem xG8 {f : Int -> Sec} {l : Nat} (h8 : 8 <= n) (hn : n <= 4096) (hg : gen <= 4611686018427387000) (hu : u <= logOf n) (hend : ∀ p, u <= p -> p < logOf n -> isOf (f ((logAt n + p : Nat) : Int)).l 4 gen (p : Int) = false) : ∀ (txs : List LN) (v : Nat), LogF f n gen v txs u -> LogIs gen (readL (DM.idle n f s l) (logAt n) (logOf n)) v txs u
 | [], v, h => by
  obtain rfl : v = u := h
  refine ⟨rfl, x9M _ _ _ (fun i x hx => ?_)⟩
  rw [List.getElem?_drop] at hx
  have hi : v + i < logOf n := by
   rcases Nat.lt_or_ge (v + i) (logOf n) with h' | h'
   ·exact h'
   ·rw [List.getElem?_eq_none (by rw [x30]; omega)] at hx; cases hx
  rw [x6E (by rw [x9U h8]; omega) hi] at hx
  injection hx with hx
  subst hx
  have := hend (v + i) (by omega) hi
  rw [show (v : Int) + ((0 + i : Nat) : Int) = ((v + i : Nat) : Int) by omega]
  exact this
 | t :: rest, v, h => by
  have hle := LogF.le rest _ u h.2.2.2.2
  have hlo : logOf n <= 4096 := by unfold logOf; omega
  have hr : ∀ p, p < u -> (readL (DM.idle n f s l) (logAt n) (logOf n))[p]? = some (f ((logAt n + p : Nat) : Int)) := fun p hp => x6E (by rw [x9U h8]; omega) (by omega)
  refine ⟨pn t + 1, ?_, ?_⟩
  ·have := x9T (g := gen) (v := v) (t := t) hg (by omega) h.2.1 h.1 (readL (DM.idle n f s l) (logAt n) (logOf n)) (fun k hk => by rw [hr (v + k) (by omega), h.2.2.1 k hk]) (by rw [hr (v + pn t) (by omega), h.2.2.2.1]) (pn t) 0 (by omega)
   simpa using this
  ·rw [show v + (pn t + 1) = v + pn t + 1 by omega]
   exact xG8 h8 hn hg hu hend rest _ h.2.2.2.2
theorem JShow.shows {f : Int -> Sec} {l : Nat} (h : JShow f n gen st txs u) : Shows (DM.idle n f s l) n gen st txs u := by
  have hn8 := h.n8
  have hfit := h.fit
  refine ⟨h.fit, ?_, ?_, xG8 h.n8 h.nle h.gle h.ule h.ends txs 0 h.log⟩
  · have e : readL (DM.idle n f s l) 0 2 = [f 0, f 1] := by
      apply ext_getElem?
      intro i
      rcases Nat.lt_or_ge i 2 with hi | hi
      · rw [x6E (by omega) hi]
        have : i = 0 ∨ i = 1 := by omega
        rcases this with rfl | rfl <;> rfl
      · rw [List.getElem?_eq_none (by rw [x30]; omega), List.getElem?_eq_none (by simp; omega)]
    rw [e]
    apply xID
    have h1 := h.top
    have h2 := h.alt
    have : gen % 2 = 0 ∨ gen % 2 = 1 := by omega
    rcases this with hm | hm
    · rw [hm] at h1
      rw [show (gen + 1) % 2 = 1 by omega] at h2
      exact .inl ⟨hm, h1, h2⟩
    · rw [hm] at h1
      rw [show (gen + 1) % 2 = 0 by omega] at h2
      exact .inr ⟨hm, h1, h2⟩
  · intro k x hk hx
    rw [x6E (by have := xAS (g := gen) hn8; omega) (by omega)] at hx
    injection hx with hx
    subst hx
    rw [h.parts k hk]
    have hle := x2M h.nle
    have hg := h.gle
    have hb : isBoxB 2 (gen : Int) (k : Int) = true := by simp [isBoxB]; omega
    rw [x1U hb (x1I _ _) (x3D h.s256 _), xAX hb (x1I _ _) (x3D h.s256 _)]
    simp
structure JFine (f : Int -> Sec) (n gen : Nat) (st : LN) (txs : List LN) (u : Nat) : Prop where
 ok : JOk f n gen st txs u
 old : ∀ p, u <= p -> p < logOf n -> ∀ kd g : Int, (gen : Int) <= g -> isOf (f ((logAt n + p : Nat) : Int)).l kd g (p : Int) = false
theorem JFine.show {f : Int -> Sec} (h : JFine f n gen st txs u) : JShow f n gen st txs u :=
  ⟨h.ok.n8, h.ok.nle, h.ok.fit, h.ok.gle, h.ok.s256, h.ok.slen, h.ok.top, h.ok.alt, h.ok.parts, h.ok.log, h.ok.ule, fun p h1 h2 => h.old p h1 h2 4 gen (by omega)⟩
theorem JFine.format (h8 : 8 <= n) (hn : n <= 4096) (hf : pn st <= areaOf n) (h256 : ∀ b ∈ st, b < 256) (hl : st.length <= 20000) : JFine (fmtF n (fun _ => Sec.zero) st) n 1 st [] 0 := by
 have ha := x2V n 1
 have h0 : ∀ j : Int, putF (fun _ => Sec.zero) 0 [Sec.zero, Sec.zero] j = Sec.zero := fun j => by
  simp only [putF, upd]
  split
  ·rfl
  ·split <;> rfl
 refine ⟨JOk.format h8 hn hf h256 hl, fun p _ hp kd g hg => ?_⟩
 unfold fmtF ckptF
 rw [x0M _ _ _ _ (by right; simp [topS]; omega), x0M _ _ _ _ (by right; rw [x0E]; omega), h0]
 exact xGD _ _ _
theorem LogF.none' {f : Int -> Sec} (hg : gen <= 4611686018427387000) : ∀ (l : List LN) (v u : Nat), LogF f n gen v l u -> u <= 100000 -> ∀ p, v <= p -> p < u -> ∀ kd g : Int, (gen : Int) < g -> isOf (f ((logAt n + p : Nat) : Int)).l kd g (p : Int) = false
 | [], v, u, h, _, p, h1, h2, kd, g, hgg => by have : v = u := h; omega
 | t :: l, v, u, h, hu, p, h1, h2, kd, g, hgg => by
  have hle := LogF.le l _ u h.2.2.2.2
  by_cases hp : p < v + pn t
  ·obtain ⟨k, rfl⟩ : ∃ k, p = v + k := ⟨p - v, by omega⟩
   rw [h.2.2.1 k (by omega), x1U (by simp [isBoxB]; omega) (x1I _ _) (x3D h.2.1 _)]
   simp
   omega
  ·by_cases hp2 : p = v + pn t
   ·subst hp2
    rw [h.2.2.2.1, x1U (by simp [isBoxB]; omega) (by rw [x04]; omega) (x0Y _)]
    simp
    omega
   ·exact LogF.none' hg l _ u h.2.2.2.2 hu p (by omega) h2 kd g hgg
theorem JFine.ckpt {f : Int -> Sec} (h : JFine f n gen st txs u) (hf : pn st' <= areaOf n) (h256 : ∀ b ∈ st', b < 256) (hl : st'.length <= 20000) (hg : gen + 1 <= 4611686018427387000) : JFine (ckptF n f (gen + 1) st') n (gen + 1) st' [] 0 := by
 have ha := x2V n (gen + 1)
 have hlo : logOf n <= 4096 := by have := h.ok.nle; unfold logOf; omega
 refine ⟨h.ok.ckpt hf h256 hl hg, fun p _ hp kd g hgg => ?_⟩
 unfold ckptF
 rw [x0M _ _ _ _ (by right; simp [topS]; omega), x0M _ _ _ _ (by right; rw [x0E]; omega)]
 by_cases hpu : p < u
 ·exact LogF.none' h.ok.gle txs 0 u h.ok.log (by have := h.ok.ule; omega) p (by omega) hpu kd g (by omega)
 ·exact h.old p (by omega) hp kd g (by omega)
theorem JFine.app {f : Int -> Sec} (h : JFine f n gen st txs u) (hne : tx ≠ []) (h256 : ∀ b ∈ tx, b < 256) (hf : u + pn tx + 1 <= logOf n) : JFine (appF n f gen u tx) n gen st (txs ++ [tx]) (u + pn tx + 1) := by
 refine ⟨h.ok.app hne h256 hf, fun p hp hpl kd g hg => ?_⟩
 have hhigh : appF n f gen u tx ((logAt n + p : Nat) : Int) = f ((logAt n + p : Nat) : Int) := by
  unfold appF
  rw [x0M _ _ _ _ (by right; simp [endS]; omega), x0M _ _ _ _ (by right; rw [x0E]; omega)]
 rw [hhigh]
 exact h.old p (by omega) hpl kd g hg
theorem JFine.cut_app {f F : Int -> Sec} (h : JFine f n gen st txs u) (h256 : ∀ b ∈ tx, b < 256) (hf : u + pn tx + 1 <= logOf n) (hF : ∀ j, F j = f j ∨ ∃ k, k < pn tx /\ j = ((logAt n + (u + k) : Nat) : Int) /\ F j = sealRes 3 gen ((u : Int) + (k : Int)) (prow tx k)) : JShow F n gen st txs u := by
 have ha := x2V n gen
 have hfit := h.ok.fit
 have hgl := h.ok.gle
 have hlo : logOf n <= 4096 := by have := h.ok.nle; unfold logOf; omega
 have hlow : ∀ j : Int, j < (logAt n + u : Nat) -> F j = f j := fun j hj => by
  rcases hF j with e | ⟨k, _, e, _⟩
  ·exact e
  ·omega
 refine ⟨h.ok.n8, h.ok.nle, h.ok.fit, h.ok.gle, h.ok.s256, h.ok.slen, ?_, ?_, ?_, LogF.frame txs 0 u h.ok.log (fun p _ hp => hlow _ (by omega)), h.ok.ule, fun p h1 h2 => ?_⟩
 ·rw [hlow _ (by unfold logAt; omega)]; exact h.ok.top
 ·rw [hlow _ (by unfold logAt; omega)]; exact h.ok.alt
 ·intro k hk
  rw [hlow _ (by omega)]; exact h.ok.parts k hk
 ·rcases hF ((logAt n + p : Nat) : Int) with e | ⟨k, hk, e1, e2⟩
  ·rw [e]; exact h.old p h1 h2 4 gen (by omega)
  ·rw [e2, x1U (by simp [isBoxB]; omega) (x1I _ _) (x3D h256 _)]
   simp
theorem JFine.cut_ckpt {f F : Int -> Sec} (h : JFine f n gen st txs u) (hF : ∀ j : Int, (j < stateAt n (gen + 1) ∨ ((stateAt n (gen + 1) + areaOf n : Nat) : Int) <= j) -> F j = f j) : JShow F n gen st txs u := by
 have ha := x2V n gen
 have hb := x2V n (gen + 1)
 have hfit := h.ok.fit
 have hap : stateAt n gen + areaOf n <= stateAt n (gen + 1) ∨ stateAt n (gen + 1) + areaOf n <= stateAt n gen := by
  unfold stateAt
  have : gen % 2 = 0 ∨ gen % 2 = 1 := by omega
  rcases this with e | e
  ·rw [e, show (gen + 1) % 2 = 1 by omega]; omega
  ·rw [e, show (gen + 1) % 2 = 0 by omega]; omega
 have hlog : ∀ p, F ((logAt n + p : Nat) : Int) = f ((logAt n + p : Nat) : Int) := fun p => hF _ (by right; omega)
 refine ⟨h.ok.n8, h.ok.nle, h.ok.fit, h.ok.gle, h.ok.s256, h.ok.slen, ?_, ?_, ?_, LogF.frame txs 0 u h.ok.log (fun p _ _ => hlog p), h.ok.ule, fun p h1 h2 => ?_⟩
 ·rw [hF _ (by left; omega)]; exact h.ok.top
 ·rw [hF _ (by left; omega)]; exact h.ok.alt
 ·intro k hk
  rw [hF _ (by omega)]; exact h.ok.parts k hk
 ·rw [hlog p]; exact h.old p h1 h2 4 gen (by omega)
theorem xO5 {l m : Nat} {f : Int -> Sec} (h1 : s + m < 4611686018427387904) (h2 : l <= 9223372036854775807) (h3 : m <= 1000000) : Far (DM.idle n f s l) m := ⟨h1, h2, by simpa [DM.idle] using h3⟩
theorem Holds.lt (h : Holds w0 w g d X) : ∀ k ∈ X, k < w.heap.size := by
 obtain ⟨F, h1, h2, h3⟩ := h
 exact fun k hk => (h3 k hk).2

section
section
variable {w0 w : World} {g gj n gen u : Nat} {d : DM} {st : LN} {txs : List LN} {X : LN} {vs vt : Value}
theorem x9Q (hJ : Blk w gj 176 (jcells n g gen vs vt u false)) (A : OA) (m c : Nat) (hm : m <= 1000000) (hfull : areaOf n < pnN m) : Calls prog 157 #[.pointer (some ⟨gj, 0, none⟩), .slice A m c] w fun e w' => e = .returned (errV 4) /\ Below w.heap.size w w' := by
 have q0 : w.cell? ⟨gj, 0, none⟩ = some (.int .i64 (areaOf n)) := hJ.cell 0
 have HJ := kH hJ
 clear hJ
 have hpe : partsOf m = pnN m := rfl
 have hd1 : decide ((areaOf n : Int) < (partsOf m : Int)) = true := by simp; omega
 have hd1' : decide (areaOf n < partsOf m) = true := by simp; omega
 clear hpe
 go_enter func157, ntmps157
 go_wp2_with fail
 refine (x3Y HJ.out).mono ?_
 rintro e w' ⟨rfl, rfl⟩
 go_wp2
 go_quiet ((go_at_call 95; exact Calls.quiet_of_same ((x2K m _ (by omega)).mono fun e w' h => ⟨h.1, h.2.symm⟩)))
 go_wp2
 go_ret
 exact ⟨rfl, x1C (kB _ _) _⟩
theorem xAF (h : Holds w0 w g d X) (hJ : Blk w gj 176 (jcells n g gen vs vt u false)) (hgj : gj ∈ X) (hgj0 : w0.heap.size <= gj) (hn : n <= 4096) (hgen : gen + 1 <= 4611686018427387904)
 (A : OA) (c : Nat) (st : LN) (hst : Bytes w w.heap.size A st.length st) (hl : st.length <= 20000) (hlc : st.length <= c) (hcm : c <= 9223372036854775807) (hfit : pn st <= areaOf n)
 (hT : Tab w) (hw0 : 0 < w0.heap.size) (hAx : 0 < st.length -> ∀ k ∈ blkOf A, k ∈ X) (hf : Far d (pn st + 3)) (hok : (d.ckpt n (gen + 1) st).2 = 0) :
  Calls prog 157 #[.pointer (some ⟨gj, 0, none⟩), .slice A st.length c] w fun e w' => ∃ B cc, e = .returned .nilIface /\ Holds w0 w' g (d.ckpt n (gen + 1) st).1 (blkOf B ++ X) /\ (∀ k ∈ blkOf B, w.heap.size <= k) ∧
   Blk w' gj 176 (jcells n g (gen + 1) (.slice B st.length cc) (.slice none 0 0) 0 false) /\ Own w' w.heap.size (.slice B st.length cc) st.length st /\ (∀ k ∈ X, k ≠ gj -> w'.heap[k]? = w.heap[k]?) /\ w.heap.size <= w'.heap.size := by
 have q0 : w.cell? ⟨gj, 0, none⟩ = some (.int .i64 (areaOf n)) := hJ.cell 0
 have q3 : ∀ nq, (w.drewN nq).cell? ⟨gj, 3, none⟩ = some (.int .i64 gen) := fun nq => hJ.cell 3
 have hXl := h.lt
 have HB := kH (fun nq => xA0 (h.below (x1C (kB w.heap.size w) nq)) (hJ.below (x1C (kB w.heap.size w) nq) hJ.lt) hgj hgj0 hn (gen + 1) hgen A c st (hst.drewN nq) hl hlc hcm (x0O hT (x1C (kB w.heap.size w) nq) (kL hw0 h.size)) hw0 hAx hf hok)
 have HJ := kH hJ
 have HXl := kH hXl
 clear h hJ hst hT hok hXl
 have hpe : partsOf st.length = pn st := rfl
 have hd1 : decide ((areaOf n : Int) < (partsOf st.length : Int)) = false := by simp; omega
 have hd1' : decide (areaOf n < partsOf st.length) = false := by simp; omega
 have hge : ((gen + 1 : Nat) : Int) = (gen : Int) + 1 := by omega
 rw [hge] at HB
 clear hpe hge
 go_enter func157, ntmps157
 go_wp2_with fail
 refine (x3Y HJ.out).mono ?_
 rintro e w' ⟨rfl, rfl⟩
 go_wp2
 go_quiet ((go_at_call 95; exact Calls.quiet_of_same ((x2K st.length _ (by omega)).mono fun e w' h => ⟨h.1, h.2.symm⟩)))
 go_wp2_with fail
 refine (HB.out _).mono ?_
 rintro e w1 ⟨B, cc, rfl, r1, r2, r3, r4, r5, r6⟩
 go_wp2
 go_ret
 exact ⟨B, cc, rfl, r1, r2, r3, r4, r5, r6⟩
end
end
def Cuts (d : DM) (n : Nat) (st : LN) (txs : List LN) (st' : LN) (txs' : List LN) : Prop :=
  d.wait.length <= 1000000 /\ ∀ keep : List Bool, ∃ f s gen S T u, d.crash keep = DM.idle n f s 0 /\ JShow f n gen S T u /\ ((S = st /\ T = txs) ∨ (S = st' /\ T = txs'))
theorem x2P : ∀ (ss : List Sec) (i : Nat), (waitsOf i ss).length = ss.length
 | [], i => rfl
 | s :: ss, i => by simp [waitsOf, x2P ss]
theorem x8U {α : Type} (x : α) (m : Nat) (h : m <= 1) : m = 0 /\ [x].take m = [] ∨ m = 1 /\ [x].take m = [x] := by
 have : m = 0 ∨ m = 1 := by omega
 rcases this with rfl | rfl
 ·exact .inl ⟨rfl, rfl⟩
 ·exact .inr ⟨rfl, rfl⟩
theorem xLF {l : Nat} {f : Int -> Sec} (h : JFine f n gen st txs u) (hne : tx ≠ []) (h256 : ∀ b ∈ tx, b < 256) (hl : tx.length <= 20000) (hf : u + pn tx + 1 <= logOf n) :
    (pn tx + 3 <= l -> (DM.arms n f s l).app n gen u tx = (DM.arms n (appF n f gen u tx) (s + pn tx + 3) (l - (pn tx + 3)), 0)) ∧
    (l < pn tx + 3 -> ((DM.arms n f s l).app n gen u tx).2 = 3 /\ Cuts ((DM.arms n f s l).app n gen u tx).1 n st txs st (txs ++ [tx])) := by
  have hin := x9U h.ok.n8
  have hpn : pn tx <= 189 := by unfold pn; omega
  have hb1 : logAt n + u + (bodyS 3 gen u tx).length <= n := by rw [x0E]; omega
  have he1 : logAt n + (u + pn tx) + (endS gen (u + pn tx) (pn tx)).length <= n := by simp [endS]; omega
  have hbody : ∀ (kept : Nat -> Bool) (m : Nat) (j : Int), settled kept 0 (waitsOf (logAt n + u) ((bodyS 3 gen u tx).take m)) f j = f j ∨ ∃ k, k < pn tx /\ j = ((logAt n + (u + k) : Nat) : Int) /\ settled kept 0 (waitsOf (logAt n + u) ((bodyS 3 gen u tx).take m)) f j = sealRes 3 gen ((u : Int) + (k : Int)) (prow tx k) := fun kept m j => by
    rcases x4D kept ((bodyS 3 gen u tx).take m) (logAt n + u) 0 f j with e | ⟨k, x, e1, e2, e3⟩
    · exact .inl e
    · right
      rw [List.getElem?_take] at e1
      split at e1
      · have hk : k < pn tx := by
          have := (List.getElem?_eq_some_iff.1 e1).1
          rwa [x0E] at this
        rw [x80 hk] at e1
        injection e1 with e1
        exact ⟨k, hk, by rw [e2, Nat.add_assoc], by rw [e3, <- e1]; rfl⟩
      · cases e1
  constructor
  · intro hge
    have e1 := x39 n s l (logAt n + u) f (bodyS 3 gen u tx) hb1 (by rw [x0E]; omega)
    rw [x0E] at e1
    unfold DM.app
    rw [e1, if_pos rfl]
    show (DM.arms n _ _ _).putRow _ _ = _
    rw [x39 n _ _ _ _ _ he1 (by simp [endS]; omega)]
    show (DM.arms n _ (s + pn tx + 1 + 1 + 1) (l - (pn tx + 1) - (1 + 1)), 0) = _
    rw [show l - (pn tx + 1) - (1 + 1) = l - (pn tx + 3) by omega]
    rfl
  · intro hlt
    by_cases hfirst : l <= pn tx
    · have e1 := x4W n s l (logAt n + u) f (bodyS 3 gen u tx) hb1 (by rw [x0E]; exact hfirst)
      have e2 : (DM.arms n f s l).app n gen u tx = (DM.fell n f (waitsOf (logAt n + u) ((bodyS 3 gen u tx).take l)) (s + l), 3) := by
        unfold DM.app
        rw [e1, if_neg (by simp)]
      rw [e2]
      refine ⟨rfl, by show (waitsOf _ _).length <= _; rw [x2P, length_take, x0E]; omega, fun keep => ⟨_, _, gen, st, txs, u, x1R n _ f _ keep, h.cut_app h256 hf (hbody _ _), .inl ⟨rfl, rfl⟩⟩⟩
    · have e1 := x39 n s l (logAt n + u) f (bodyS 3 gen u tx) hb1 (by rw [x0E]; omega)
      rw [x0E] at e1
      have e2 := x4W n (s + pn tx + 1) (l - (pn tx + 1)) (logAt n + (u + pn tx)) (putF f (logAt n + u) (bodyS 3 gen u tx)) (endS gen (u + pn tx) (pn tx)) he1 (by simp [endS]; omega)
      have e3 : (DM.arms n f s l).app n gen u tx = (DM.fell n (putF f (logAt n + u) (bodyS 3 gen u tx)) (waitsOf (logAt n + (u + pn tx)) ((endS gen (u + pn tx) (pn tx)).take (l - (pn tx + 1)))) (s + pn tx + 1 + (l - (pn tx + 1))), 3) := by
        unfold DM.app
        rw [e1, if_pos rfl]
        exact e2
      have hold : JShow (putF f (logAt n + u) (bodyS 3 gen u tx)) n gen st txs u := h.cut_app h256 hf (fun j => by
        have := hbody (fun _ => true) (pn tx) j
        rw [take_of_length_le (by rw [x0E]; exact kR _), x26] at this
        exact this)
      rw [e3]
      refine ⟨rfl, by show (waitsOf _ _).length <= _; rw [x2P, length_take]; simp [endS]; omega, fun keep => ?_⟩
      rcases x8U (sealRes 4 gen (u + pn tx : Nat) (numB (pn tx))) (l - (pn tx + 1)) (by omega) with ⟨hm, ht⟩ | ⟨hm, ht⟩
      · refine ⟨_, _, gen, st, txs, u, x1R n _ _ _ keep, ?_, .inl ⟨rfl, rfl⟩⟩
        unfold endS
        rw [ht]
        exact hold
      · by_cases hkp : keptOf keep 0 = true
        · refine ⟨_, _, gen, st, txs ++ [tx], u + pn tx + 1, x1R n _ _ _ keep, ?_, .inr ⟨rfl, rfl⟩⟩
          have := (h.app hne h256 hf).show
          unfold endS
          rw [ht]
          unfold appF endS at this
          simp only [waitsOf, settled, hkp, if_true]
          exact this
        · refine ⟨_, _, gen, st, txs, u, x1R n _ _ _ keep, ?_, .inl ⟨rfl, rfl⟩⟩
          unfold endS
          rw [ht]
          simp only [waitsOf, settled]
          rw [if_neg hkp]
          exact hold
theorem xKM {l : Nat} {f : Int -> Sec} (h : JFine f n gen st txs u) (h256 : ∀ b ∈ st', b < 256) (hl : st'.length <= 20000) (hf : pn st' <= areaOf n) (hg : gen + 1 <= 4611686018427387000) :
    (pn st' + 3 <= l -> (DM.arms n f s l).ckpt n (gen + 1) st' = (DM.arms n (ckptF n f (gen + 1) st') (s + pn st' + 3) (l - (pn st' + 3)), 0)) ∧
    (l < pn st' + 3 -> ((DM.arms n f s l).ckpt n (gen + 1) st').2 = 3 /\ Cuts ((DM.arms n f s l).ckpt n (gen + 1) st').1 n st txs st' []) := by
  have hin := xAS (g := gen + 1) h.ok.n8
  have h8 := h.ok.n8
  have hpn : pn st' <= 189 := by unfold pn; omega
  have hb1 : stateAt n (gen + 1) + (bodyS 2 (gen + 1) 0 st').length <= n := by rw [x0E]; omega
  have he1 : (gen + 1) % 2 + (topS (gen + 1) st').length <= n := by simp [topS]; omega
  have hbody : ∀ (kept : Nat -> Bool) (m : Nat), JShow (settled kept 0 (waitsOf (stateAt n (gen + 1)) ((bodyS 2 (gen + 1) 0 st').take m)) f) n gen st txs u := fun kept m => h.cut_ckpt (fun j hj => by
    rcases x4D kept ((bodyS 2 (gen + 1) 0 st').take m) (stateAt n (gen + 1)) 0 f j with e | ⟨k, x, e1, e2, e3⟩
    · exact e
    · rw [List.getElem?_take] at e1
      split at e1
      · have hk : k < pn st' := by
          have := (List.getElem?_eq_some_iff.1 e1).1
          rwa [x0E] at this
        omega
      · cases e1)
  constructor
  · intro hge
    have e1 := x39 n s l (stateAt n (gen + 1)) f (bodyS 2 (gen + 1) 0 st') hb1 (by rw [x0E]; omega)
    rw [x0E] at e1
    unfold DM.ckpt
    rw [e1, if_pos rfl]
    show (DM.arms n _ _ _).putRow _ _ = _
    rw [x39 n _ _ _ _ _ he1 (by simp [topS]; omega)]
    show (DM.arms n _ (s + pn st' + 1 + 1 + 1) (l - (pn st' + 1) - (1 + 1)), 0) = _
    rw [show l - (pn st' + 1) - (1 + 1) = l - (pn st' + 3) by omega]
    rfl
  · intro hlt
    by_cases hfirst : l <= pn st'
    · have e1 := x4W n s l (stateAt n (gen + 1)) f (bodyS 2 (gen + 1) 0 st') hb1 (by rw [x0E]; exact hfirst)
      have e2 : (DM.arms n f s l).ckpt n (gen + 1) st' = (DM.fell n f (waitsOf (stateAt n (gen + 1)) ((bodyS 2 (gen + 1) 0 st').take l)) (s + l), 3) := by
        unfold DM.ckpt
        rw [e1, if_neg (by simp)]
      rw [e2]
      exact ⟨rfl, by show (waitsOf _ _).length <= _; rw [x2P, length_take, x0E]; omega, fun keep => ⟨_, _, gen, st, txs, u, x1R n _ f _ keep, hbody _ _, .inl ⟨rfl, rfl⟩⟩⟩
    · have e1 := x39 n s l (stateAt n (gen + 1)) f (bodyS 2 (gen + 1) 0 st') hb1 (by rw [x0E]; omega)
      rw [x0E] at e1
      have e2 := x4W n (s + pn st' + 1) (l - (pn st' + 1)) ((gen + 1) % 2) (putF f (stateAt n (gen + 1)) (bodyS 2 (gen + 1) 0 st')) (topS (gen + 1) st') he1 (by simp [topS]; omega)
      have e3 : (DM.arms n f s l).ckpt n (gen + 1) st' = (DM.fell n (putF f (stateAt n (gen + 1)) (bodyS 2 (gen + 1) 0 st')) (waitsOf ((gen + 1) % 2) ((topS (gen + 1) st').take (l - (pn st' + 1)))) (s + pn st' + 1 + (l - (pn st' + 1))), 3) := by
        unfold DM.ckpt
        rw [e1, if_pos rfl]
        exact e2
      have hold : JShow (putF f (stateAt n (gen + 1)) (bodyS 2 (gen + 1) 0 st')) n gen st txs u := by
        have := hbody (fun _ => true) (pn st')
        rw [take_of_length_le (by rw [x0E]; exact kR _), x26] at this
        exact this
      rw [e3]
      refine ⟨rfl, by show (waitsOf _ _).length <= _; rw [x2P, length_take]; simp [topS]; omega, fun keep => ?_⟩
      rcases x8U (sealRes 1 (gen + 1 : Nat) 0 (numB st'.length)) (l - (pn st' + 1)) (by omega) with ⟨hm, ht⟩ | ⟨hm, ht⟩
      · refine ⟨_, _, gen, st, txs, u, x1R n _ _ _ keep, ?_, .inl ⟨rfl, rfl⟩⟩
        unfold topS
        rw [ht]
        exact hold
      · by_cases hkp : keptOf keep 0 = true
        · refine ⟨_, _, gen + 1, st', [], 0, x1R n _ _ _ keep, ?_, .inr ⟨rfl, rfl⟩⟩
          have := (h.ckpt hf h256 hl hg).show
          unfold topS
          rw [ht]
          unfold ckptF topS at this
          simp only [waitsOf, settled, hkp, if_true]
          exact this
        · refine ⟨_, _, gen, st, txs, u, x1R n _ _ _ keep, ?_, .inl ⟨rfl, rfl⟩⟩
          unfold topS
          rw [ht]
          simp only [waitsOf, settled]
          rw [if_neg hkp]
          exact hold

section
def intS : Value -> Int
 | .int _ i => i
 | _ => 0
def flagsS (l : List Bool) : List Value := l.map Value.bool
def FirstAt (l : List Bool) (b : Bool) (r : Int) : Prop := (r = -1 /\ ∀ j, j < l.length -> l[j]? = some (!b)) ∨ ∃ k : Nat, r = (k : Int) /\ k < l.length /\ l[k]? = some b /\ ∀ j, j < k -> l[j]? = some (!b)
section
variable {w : World} {g : Nat} {A : OA} {n c : Nat} {left : Int}
theorem x4K (h : Blk w g 190 #[.slice A n c, .int .i64 left]) : Calls prog 57 #[.pointer (some ⟨g, 0, none⟩)] w fun e w' => e = .returned (.int .i64 (n : Int)) /\ w = w' := by
 have q0 : w.cell? ⟨g, 0, none⟩ = some (.slice A n c) := h.cell 0
 clear h
 go_enter func57, ntmps57
 go_wp2
 go_ret
 exact ⟨rfl, rfl⟩
theorem xIP (h : Blk w g 190 #[.slice A n c, .int .i64 left]) : Calls prog 212 #[.pointer (some ⟨g, 0, none⟩)] w fun e w' => e = .returned (.int .i64 left) /\ w = w' := by
 have q1 : w.cell? ⟨g, 1, none⟩ = some (.int .i64 left) := h.cell 1
 clear h
 go_enter func212, ntmps212
 go_wp2
 go_ret
 exact ⟨rfl, rfl⟩
end
theorem xB3 (A : OA) (c B : Nat) (l : List Bool) (b : Bool) (w : World) (hR : Reads w B 1 A l.length (flagsS l)) (hl : l.length <= 1000000000) :
  Calls prog 280 #[.slice A l.length c, .bool b] w fun e w' => ∃ r : Int, e = .returned (.int .i64 r) /\ w = w' /\ FirstAt l b r := by
 have HR := kH hR
 clear hR
 go_enter func280, ntmps280
 go_wp2
 go_loopw [8] (fun i wr => ∃ k : Nat, k <= l.length /\ i = .int .i64 k /\ wr = w /\ ∀ j, j < k -> l[j]? = some (!b)) (fun i _ => l.length - (intS i).toNat)
 case atStart => exact ⟨0, by omega, rfl, rfl, fun j h => by omega⟩
 case round =>
  obtain ⟨k, hk, rfl, rfl, hall⟩ := hrel
  have HALL := kH hall
  clear hall
  by_cases hlt : k < l.length
  ·obtain ⟨ad, u, rfl, -, hu, hc⟩ := HR.out.at_ hlt
   obtain ⟨x, hx, rfl⟩ : ∃ x, l[k]? = some x /\ u = .bool x := by
    simp only [flagsS, List.getElem?_map, List.getElem?_eq_getElem hlt, Option.map_some, Option.some.injEq] at hu
    exact ⟨_, List.getElem?_eq_getElem hlt, hu.symm⟩
   have HX := kH hx
   clear hu hx
   by_cases hb : b = x
   ·have hq : (b == x) = true := by simp [hb]
    go_wp2
    go_ret
    exact ⟨k, rfl, rfl, .inr ⟨k, rfl, hlt, by rw [HX.out, hb], HALL.out⟩⟩
   ·have hq : (b == x) = false := by simpa using hb
    go_wp2
    go_roundw
    case rel =>
     refine ⟨k + 1, by omega, by go_num, by trivial, fun j hj => ?_⟩
     rcases Nat.lt_succ_iff_lt_or_eq.1 hj with h | rfl
     ·exact HALL.out j h
     ·rw [HX.out]; cases b <;> cases x <;> simp_all
    case measure => simp [intS]; omega
  ·obtain rfl : k = l.length := by omega
   go_wp2
   go_ret
   exact ⟨-1, rfl, rfl, .inl ⟨rfl, HALL.out⟩⟩
theorem xDT (A : OA) (c B : Nat) (l : List Bool) (b : Bool) (w : World) (hR : Reads w B 1 A l.length (flagsS l)) (hl : l.length <= 1000000000) :
  Calls prog 272 #[.slice A l.length c, .bool b] w fun e w' => ∃ r : Bool, e = .returned (.bool r) /\ w = w' /\ (r = true ↔ b ∈ l) := by
 have HR := kH hR
 clear hR
 go_enter func272, ntmps272
 go_wp2_with fail
 refine (xB3 A c B l b w HR.out hl).mono ?_
 rintro e w' ⟨r, rfl, rfl, hf⟩
 rcases hf with ⟨rfl, hall⟩ | ⟨k, rfl, h1, h2, -⟩
 ·have HALL := kH hall
  clear hall
  go_wp2
  go_ret
  refine ⟨false, rfl, rfl, by simp, fun hm => ?_⟩
  obtain ⟨j, hj, e⟩ := mem_iff_getElem.1 hm
  have := HALL.out j hj
  rw [List.getElem?_eq_getElem hj, e] at this
  cases b <;> simp at this
 ·have H2 := kH h2
  clear h2
  have hd : decide ((0 : Int) <= (k : Int)) = true := decide_eq_true (by omega)
  go_wp2
  go_ret
  exact ⟨true, rfl, rfl, fun _ => mem_of_getElem? H2.out, fun _ => rfl⟩
end
theorem x4F (bs : LN) : (strOf bs).size = bs.length := by simp [strOf, strOfNums_size]
theorem xGQ (w : World) (bs : LN) (hb : ∀ b ∈ bs, b < 256) : ∃ cap w', (convert 9 35 (.string (strOf bs))).run prog w = .ok (.slice (some ⟨w.heap.size, 0, none⟩) bs.length cap) w' /\ Below w.heap.size w w' /\ Bytes w' (w.heap.size + 1) (some ⟨w.heap.size, 0, none⟩) bs.length bs := by
 have h := Lib.run_convert_string_bytes (P := prog) w 9 35 5 (strOf bs) underlying9 underlying35 underlying5
 rw [x4F] at h
 refine ⟨_, _, h, ⟨rfl, rfl, rfl, by rw [Lib.bytesWorld_size]; omega, fun i hi => Lib.bytesWorld_at_old _ _ _ _ hi⟩, ⟨⟨by simp [u8s], fun hn => ⟨_, rfl, Nat.lt_succ_self _, fun j u hu => ?_⟩⟩, hb⟩⟩
 have hj : j < bs.length := by
  rcases Nat.lt_or_ge j bs.length with h' | h'
  ·exact h'
  ·rw [List.getElem?_eq_none (by rw [x0C]; exact h')] at hu; cases hu
 rw [x19, Lib.bytesWorld_cell _ _ _ _ (by rw [x4F]; exact hj), <- hu]
 have hbj := hb _ (List.getElem_mem hj)
 simp [strOf, strOfNums_data, u8s, u8, hj]
 omega
def okChar (b : Nat) : Bool := decide (33 <= b) && decide (b <= 126)
def isNameB (bs : LN) : Bool := decide (1 <= bs.length) && decide (bs.length <= 32) && bs.all okChar
def isClientB (n : Int) : Bool := decide (0 <= n) && decide (n < 8)
theorem x2B (n : Int) (w : World) : Calls prog 61 #[.int .i64 n] w fun e w' => e = .returned (.bool (isClientB n)) /\ w = w' := by
 unfold isClientB
 by_cases h1 : 0 <= n
 ·have hd1 : decide ((0 : Int) <= n) = true := decide_eq_true h1
  by_cases h2 : n < 8
  ·have hd2 : decide (n < (8 : Int)) = true := decide_eq_true h2
   go_enter func61, ntmps61
   go_wp2
   go_ret
   exact ⟨by simp [hd1, hd2], rfl⟩
  ·have hd2 : decide (n < (8 : Int)) = false := decide_eq_false h2
   go_enter func61, ntmps61
   go_wp2
   go_ret
   exact ⟨by simp [hd1, hd2], rfl⟩
 ·have hd1 : decide ((0 : Int) <= n) = false := decide_eq_false h1
  go_enter func61, ntmps61
  go_wp2
  go_ret
  exact ⟨by simp [hd1], rfl⟩
theorem xPS (b : Nat) (hb : b < 256) (w : World) : Calls prog 111 #[.int .u8 (b : Int)] w fun e w' => e = .returned (.bool (!okChar b)) /\ w = w' := by
 unfold okChar
 by_cases h1 : b < 33
 ·have hd1 : decide ((b : Int) < 33) = true := decide_eq_true (by omega)
  have hd1' : decide (b < 33) = true := decide_eq_true h1
  have hr : (!(decide (33 <= b) && decide (b <= 126))) = true := by simp; omega
  go_enter func111, ntmps111
  go_wp2
  go_ret
  exact ⟨by rw [hr]; rfl, rfl⟩
 ·have hd1 : decide ((b : Int) < 33) = false := decide_eq_false (by omega)
  have hd1' : decide (b < 33) = false := decide_eq_false h1
  by_cases h2 : 126 < b
  ·have hd2 : decide ((126 : Int) < (b : Int)) = true := decide_eq_true (by omega)
   have hd2' : decide (126 < b) = true := decide_eq_true h2
   have hr : (!(decide (33 <= b) && decide (b <= 126))) = true := by simp; omega
   go_enter func111, ntmps111
   go_wp2
   go_ret
   exact ⟨by rw [hr]; rfl, rfl⟩
  ·have hd2 : decide ((126 : Int) < (b : Int)) = false := decide_eq_false (by omega)
   have hd2' : decide (126 < b) = false := decide_eq_false h2
   have hr : (!(decide (33 <= b) && decide (b <= 126))) = false := by simp; omega
   go_enter func111, ntmps111
   go_wp2
   go_ret
   exact ⟨by rw [hr]; rfl, rfl⟩
def oddV : Value := .func (.func 111) #[] #[]
theorem xKQ {bs : LN} (h : Bytes w B A bs.length bs) (hl : bs.length <= 65536) :
  Calls prog 160 #[.slice A bs.length c, oddV] w fun e w' => (∃ v : Int, e = .returned (.int .i64 v) /\ ((v = -1 /\ bs.all okChar = true) ∨ (0 <= v /\ bs.all okChar = false))) /\ w = w' := by
 have H := kH h
 clear h
 go_enter func160, ntmps160
 unfold oddV
 go_wp2
 go_loopw [8] (fun i wr => ∃ k : Nat, k <= bs.length /\ i = .int .i64 k /\ wr = w /\ ∀ j b, j < k -> bs[j]? = some b -> okChar b = true) (fun i _ => bs.length - (intS i).toNat)
 case atStart => exact ⟨0, by omega, rfl, by trivial, fun j b h => by omega⟩
 case round =>
  obtain ⟨k, hk, rfl, rfl, hall⟩ := hrel
  have HA := kH hall
  clear hall
  by_cases hlt : k < bs.length
  ·obtain ⟨ad, b, rfl, hb, hb2, hc⟩ := H.out.at_ hlt
   have HB := kH hb
   have HO := kH (xPS b hb2 wr)
   have hwk := wK k (by omega)
   clear hb
   go_wp2_with fail
   refine HO.out.mono ?_
   rintro e w' ⟨rfl, rfl⟩
   clear HO
   by_cases hok : okChar b = true
   ·have HOK := kH hok
    rw [hok]
    clear hok
    go_wp2
    go_roundw
    case rel => exact ⟨k + 1, by omega, by go_num, by trivial, fun j b' hj hb' => by
     rcases Nat.lt_succ_iff_lt_or_eq.1 hj with h | rfl
     ·exact HA.out j b' h hb'
     ·rw [HB.out] at hb'; injection hb' with hb'; subst hb'; exact HOK.out⟩
    case measure => simp [intS]; omega
   ·have hok' : okChar b = false := by simpa using hok
    have HOK := kH hok'
    rw [hok']
    clear hok hok'
    go_wp2
    go_ret
    refine ⟨⟨_, rfl, .inr ⟨by omega, ?_⟩⟩, rfl⟩
    rw [List.all_eq_false]
    exact ⟨b, mem_of_getElem? HB.out, by rw [HOK.out]; simp⟩
  ·obtain rfl : k = bs.length := by omega
   go_wp2
   go_ret
   refine ⟨⟨_, rfl, .inl ⟨rfl, ?_⟩⟩, rfl⟩
   rw [all_eq_true]
   intro b hb
   obtain ⟨j, hj, rfl⟩ := mem_iff_getElem.1 hb
   exact HA.out j _ hj (List.getElem?_eq_getElem hj)
theorem xDL {bs : LN} (h : Bytes w B A bs.length bs) (hl : bs.length <= 65536) :
  Calls prog 112 #[.slice A bs.length c, oddV] w fun e w' => e = .returned (.bool (!bs.all okChar)) /\ w = w' := by
 have HI := kH (xKQ (c := c) h hl)
 clear h
 go_enter func112, ntmps112
 go_wp2_with fail
 refine HI.out.mono ?_
 rintro e w' ⟨⟨v, rfl, hv⟩, rfl⟩
 rcases hv with ⟨rfl, hv⟩ | ⟨hv0, hv⟩
 ·have HV := kH hv
  clear hv
  go_wp2
  go_ret
  exact ⟨by rw [HV.out]; rfl, rfl⟩
 ·have HV := kH hv
  have hd : decide ((0 : Int) <= v) = true := decide_eq_true hv0
  clear hv
  go_wp2
  go_ret
  exact ⟨by rw [HV.out]; rfl, rfl⟩
theorem x3Z (bs : LN) (hb : ∀ b ∈ bs, b < 256) (hl : bs.length <= 1000000) (w : World) : Calls prog 63 #[.string (strOf bs)] w fun e w' => e = .returned (.bool (isNameB bs)) /\ Below w.heap.size w w' := by
 have hsz := x4F bs
 unfold isNameB
 by_cases h1 : 1 <= bs.length
 ·have hd1 : decide ((1 : Int) <= (bs.length : Int)) = true := decide_eq_true (by omega)
  have hd1' : decide (1 <= bs.length) = true := decide_eq_true h1
  by_cases h2 : bs.length <= 32
  ·have hd2 : decide ((bs.length : Int) <= 32) = true := decide_eq_true (by omega)
   have hd2' : decide (bs.length <= 32) = true := decide_eq_true h2
   have HB := kH hb
   clear hb
   obtain ⟨cap, w2, hr, hbl, hby⟩ := xGQ w bs HB.out
   have HC := kH (xDL (c := cap) hby (by omega))
   have HBL := kH hbl
   unfold oddV at HC
   clear hbl hby
   go_enter func63, ntmps63
   go_wp2_with fail
   refine HC.out.mono ?_
   rintro e w' ⟨rfl, rfl⟩
   have hr' : ∀ q, (decide (1 <= bs.length) && decide (bs.length <= 32) && q) = q := fun q => by rw [hd1', hd2']; cases q <;> rfl
   rcases Bool.eq_false_or_eq_true (bs.all okChar) with hall | hall
   ·rw [hall]
    have HA := kH hall
    clear hall
    go_wp2
    go_ret
    exact ⟨by rw [hr', HA.out]; rfl, HBL.out⟩
   ·rw [hall]
    have HA := kH hall
    clear hall
    go_wp2
    go_ret
    exact ⟨by rw [hr', HA.out]; rfl, HBL.out⟩
  ·have hd2 : decide ((bs.length : Int) <= 32) = false := decide_eq_false (by omega)
   have hd2' : decide (bs.length <= 32) = false := decide_eq_false h2
   have hr' : (decide (1 <= bs.length) && decide (bs.length <= 32) && bs.all okChar) = false := by rw [hd1', hd2']; rfl
   rw [hr']
   go_enter func63, ntmps63
   go_wp2
   go_ret
   exact ⟨rfl, kB _ _⟩
 ·have hd1 : decide ((1 : Int) <= (bs.length : Int)) = false := decide_eq_false (by omega)
  have hd1' : decide (1 <= bs.length) = false := decide_eq_false h1
  have hr' : (decide (1 <= bs.length) && decide (bs.length <= 32) && bs.all okChar) = false := by rw [hd1']; rfl
  rw [hr']
  go_enter func63, ntmps63
  go_wp2
  go_ret
  exact ⟨rfl, kB _ _⟩
theorem xCF (A : OA) (m c k : Nat) (hk : k <= m) (w : World) : (Instr.slice 23 (.slice A m c) (some (.int .i64 k)) none none).run prog w = .ok (.slice (if c = k then A else A.map (·.add (k * 1))) (m - k) (c - k)) w := by
 have hsz : ∀ w, (sizeOf (prog.elem 23)).run prog w = .ok 1 w := fun w => by kernel_rfl
 rw [run_slice_l w 23 A m c (by kernel_rfl) .i64 k (by omega) (by omega), hsz]
 simp only [Result.andThen, sliced, kP]
def runOf (l : List Bool) : Nat := (l.takeWhile id).length
theorem xG7 : ∀ {l : List Bool}, (∀ j, j < l.length -> l[j]? = some true) -> runOf l = l.length
 | [], _ => rfl
 | b :: l, h => by
  have h0 := h 0 (by simp)
  simp at h0
  subst h0
  have := xG7 (l := l) (fun j hj => by simpa using h (j + 1) (by simpa using hj))
  simp [runOf] at this ⊢
  exact this
theorem xKJ : ∀ {l : List Bool} {k : Nat}, l[k]? = some false -> (∀ j, j < k -> l[j]? = some true) -> runOf l = k
 | [], k, h, _ => by simp at h
 | b :: l, 0, h, _ => by
  simp at h
  subst h
  simp [runOf]
 | b :: l, k + 1, h, h' => by
  have h0 := h' 0 (by omega)
  simp at h0
  subst h0
  have := xKJ (l := l) (k := k) (by simpa using h) (fun j hj => by simpa using h' (j + 1) (by omega))
  simp [runOf] at this ⊢
  exact this
theorem xQ1 (l : List Bool) : runOf l <= l.length := by
 induction l with
 | nil => simp [runOf]
 | cons b l ih => cases b <;> simp [runOf] at ih ⊢ <;> omega
theorem xE3 (fl : List Bool) (k : Nat) (hk : k <= fl.length) (hc : fl.length <= c) (hl : fl.length <= 1000000000) (h : Blk w g 190 #[.slice A fl.length c, .int .i64 left]) (hR : Reads w B 1 A fl.length (flagsS fl)) :
  Calls prog 254 #[.pointer (some ⟨g, 0, none⟩), .int .i64 k] w fun e w' => e = .returned (.int .i64 (runOf (fl.drop k) : Nat)) /\ w = w' := by
 have q0 : w.cell? ⟨g, 0, none⟩ = some (.slice A fl.length c) := h.cell 0
 have hcut := hR.cut hk hc
 have hd : (fl.drop k).length = fl.length - k := length_drop
 rw [show (flagsS fl).drop (k * 1) = flagsS (fl.drop k) from by rw [Nat.mul_one, flagsS, flagsS, map_drop], <- hd] at hcut
 have hsl := xCF A fl.length c k hk
 generalize hAc : (if c = k then A else A.map (·.add (k * 1))) = Ac at *
 generalize fl.drop k = l at *
 have hi := fun w' (e : w' = w) => xB3 Ac (c - k) B l false w' (e ▸ hcut) (by omega)
 simp only [hd] at hi
 have HI := kH hi
 have HL := kH (x4K h)
 have HD := kH hd
 clear hcut h hR hAc hi hd
 have hk' : ((fl.length : Int) - (k : Int)) = ((fl.length - k : Nat) : Int) := by omega
 go_enter func254, ntmps254
 go_wp2_with fail
 refine (HI.out _ rfl).mono ?_
 rintro e w' ⟨r, rfl, rfl, hf⟩
 rcases hf with ⟨rfl, hall⟩ | ⟨j, rfl, h1, h2, h3⟩
 ·have HR := kH (xG7 hall)
  clear hall
  go_wp2_with fail
  refine HL.out.mono ?_
  rintro e w' ⟨rfl, rfl⟩
  go_wp2
  go_ret
  rw [HR.out, HD.out]
  exact ⟨by go_num, rfl⟩
 ·have HR := kH (xKJ h2 h3)
  have hd0 : decide ((j : Int) < 0) = false := decide_eq_false (by omega)
  clear h2 h3
  go_wp2
  go_ret
  rw [HR.out]
  exact ⟨rfl, rfl⟩
theorem x08 {a : World} (h : Below B a w) (q : Nat) : Below B a (w.drewN q) := ⟨h.os, h.tape, h.output, h.size, h.block⟩
theorem xNU (fl : List Bool) (x y : Int) (b : Bool) (hx1 : -9223372036854775808 <= x) (hx2 : x <= 9223372036854775807) (hy1 : -9223372036854775808 <= y) (hy2 : y <= 9223372036854775807) (hl : fl.length <= 1000000000)
 (h : Blk w g 190 #[.slice A fl.length c, .int .i64 left]) (hno : y < 1 ∨ x < 0 ∨ (fl.length : Int) < x + y) :
  Calls prog 249 #[.pointer (some ⟨g, 0, none⟩), .agg #[.int .i64 x, .int .i64 y], .bool b] w fun e w' => e = .returned (.bool false) /\ Below w.heap.size w w' := by
 have H := kH h
 clear h
 by_cases h1 : y < 1
 ·have hd1 : decide (y < 1) = true := decide_eq_true h1
  clear hno
  go_enter func249, ntmps249
  go_wp2
  go_quiet (fail)
  go_wp2
  go_ret
  exact ⟨rfl, x08 ((kB _ _).alloc (kR _) _) _⟩
 ·have hd1 : decide (y < 1) = false := decide_eq_false h1
  by_cases h2 : x < 0
  ·have hd2 : decide (x < 0) = true := decide_eq_true h2
   clear hno
   go_enter func249, ntmps249
   go_wp2
   go_quiet (fail)
   go_wp2
   go_ret
   exact ⟨rfl, x08 ((kB _ _).alloc (kR _) _) _⟩
  ·have hd2 : decide (x < 0) = false := decide_eq_false h2
   have h3 : (fl.length : Int) - y < x := by omega
   have hd3 : decide ((fl.length : Int) - y < x) = true := decide_eq_true h3
   have hy3 : 1 <= y := by omega
   have hx3 : 0 <= x := by omega
   have hwr : IntKind.i64.wrap ((fl.length : Int) - y) = (fl.length : Int) - y := by rw [kI]; omega
   clear hno
   go_enter func249, ntmps249
   go_wp2_with fail
   go_quiet ((go_at_call 57; exact Calls.quiet_of_same ((x4K ((H.out.alloc _).drewN _)).mono fun e w' h => ⟨h.1, h.2.symm⟩)))
   go_wp2
   go_ret
   exact ⟨rfl, x08 ((kB _ _).alloc (kR _) _) _⟩
theorem xB1 (A : OA) (m c i k : Nat) (hk : i + k <= m) (hc : m <= c) (w : World) : (Instr.slice 23 (.slice A m c) (some (.int .i64 i)) (some (.int .i64 ((i : Int) + (k : Int)))) none).run prog w = .ok (.slice (if c = i then A else A.map (·.add (i * 1))) k (c - i)) w := by
 have hsz : ∀ w, (sizeOf (prog.elem 23)).run prog w = .ok 1 w := fun w => by kernel_rfl
 rw [run_slice_lh w 23 A m c (by kernel_rfl) .i64 .i64 i ((i : Int) + (k : Int)) (by omega) (by omega) (by omega), hsz]
 simp only [Result.andThen, sliced, kP]
 rw [show ((i : Int) + (k : Int)).toNat - i = k by omega]
theorem xOE (fl : List Bool) (i k : Nat) (b : Bool) (hk : 1 <= k) (hik : i + k <= fl.length) (hc : fl.length <= c) (hl : fl.length <= 1000000000)
 (h : Blk w g 190 #[.slice A fl.length c, .int .i64 left]) (hB : B <= w.heap.size) (hR : Reads w B 1 A fl.length (flagsS fl)) :
  Calls prog 249 #[.pointer (some ⟨g, 0, none⟩), .agg #[.int .i64 (i : Int), .int .i64 (k : Int)], .bool b] w fun e w' => ∃ r : Bool, e = .returned (.bool r) /\ Below w.heap.size w w' /\ (r = true ↔ ∀ z ∈ (fl.drop i).take k, z = b) := by
 have H := kH h
 have hcut := (hR.cut (k := i) (by omega) hc).take (k := k) (by omega)
 have hd : ((fl.drop i).take k).length = k := by rw [length_take, length_drop]; omega
 rw [show ((flagsS fl).drop (i * 1)).take k = flagsS ((fl.drop i).take k) from by rw [Nat.mul_one, flagsS, flagsS, map_take, map_drop]] at hcut
 have hsl := xB1 A fl.length c i k hik hc
 generalize hAc : (if c = i then A else A.map (·.add (i * 1))) = Ac at *
 generalize (fl.drop i).take k = l at *
 have HC := kH (fun w' (hw : Below B w w') => (show Calls prog 272 #[.slice Ac k (c - i), .bool (!b)] w' (fun e w'' => e = .returned (.bool (decide ((!b) ∈ l))) /\ w'' = w') from by
  have h0 := xDT Ac (c - i) B l (!b) w' (by rw [hd]; exact hcut.below hw) (by omega)
  rw [hd] at h0
  refine h0.mono ?_
  rintro e w'' ⟨r, rfl, rfl, hr⟩
  refine ⟨?_, rfl⟩
  have : r = decide ((!b) ∈ l) := by rw [Bool.eq_iff_iff, decide_eq_true_eq]; exact hr
  rw [this]))
 clear h hR hAc hcut hd
 have hd1 : decide ((k : Int) < 1) = false := decide_eq_false (by omega)
 have hd2 : decide ((i : Int) < 0) = false := decide_eq_false (by omega)
 have hd3 : decide ((fl.length : Int) - (k : Int) < (i : Int)) = false := decide_eq_false (by omega)
 have hwr : IntKind.i64.wrap ((fl.length : Int) - (k : Int)) = (fl.length : Int) - (k : Int) := by rw [kI]; omega
 have hwr2 : IntKind.i64.wrap ((i : Int) + (k : Int)) = (i : Int) + (k : Int) := by rw [kI]; omega
 have q0 : ∀ o, (w.alloc o).cell? ⟨g, 0, none⟩ = some (.slice A fl.length c) := fun o => (H.out.alloc o).cell 0
 go_enter func249, ntmps249
 go_wp2_with fail
 go_quiet ((go_at_call 57; exact Calls.quiet_of_same ((x4K ((H.out.alloc _).drewN _)).mono fun e w' h => ⟨h.1, h.2.symm⟩)))
 have hbw : ∀ o n, Below B w ((w.alloc o).drewN n) := fun o n => x08 ((kB _ _).alloc hB _) _
 go_wp2_with fail
 go_quiet ((go_at_call 272; exact (HC.out _ (hbw _ _)).mono (fun e w' h => ⟨h.1, _, h.2⟩)))
 go_wp2
 go_ret
 refine ⟨_, rfl, x08 (x08 ((kB _ _).alloc (kR _) _) _) _, ?_⟩
 simp only [Bool.not_eq_true', decide_eq_false_iff_not]
 refine ⟨fun h z hz => ?_, fun h hm => ?_⟩
 ·cases z <;> cases b <;> simp_all
 ·have := h _ hm
  cases b <;> simp at this
def grow (i : Nat) : List Bool -> List (Nat × Nat) -> List (Nat × Nat)
 | true :: _, (_, n) :: r => (i, n + 1) :: r
 | _, h => (i, 1) :: h
def hol : Nat -> List Bool -> List (Nat × Nat)
 | _, [] => []
 | i, false :: l => hol (i + 1) l
 | i, true :: l => grow i l (hol (i + 1) l)
theorem xEN (i : Nat) (l : List Bool) : hol i (true :: l) = grow i l (hol (i + 1) l) := rfl
theorem xKS (l : List Bool) : l = List.replicate (runOf l) true ++ l.drop (runOf l) /\ (l.drop (runOf l) = [] ∨ ∃ r, l.drop (runOf l) = false :: r) := by
 induction l with
 | nil => simp [runOf]
 | cons b l ih =>
  cases b
  ·simp [runOf]
  ·have e : runOf (true :: l) = runOf l + 1 := by simp [runOf]
   rw [e]
   simp only [replicate_succ, drop_succ_cons, cons_append, List.cons.injEq, true_and]
   exact ih
theorem x7U {P : List Bool -> Prop} (h0 : P []) (hf : ∀ l, P l -> P (false :: l)) (ha : ∀ n, P (List.replicate (n + 1) true)) (hr : ∀ n l, P l -> P (List.replicate (n + 1) true ++ false :: l)) : ∀ l, P l := by
 intro l
 induction hn : l.length using Nat.strongRecOn generalizing l with
 | _ n ih =>
  obtain ⟨h1, h2⟩ := xKS l
  have ha' := fun k (hk : 0 < k) => (show P (List.replicate k true) from by obtain ⟨m, rfl⟩ : ∃ m, k = m + 1 := ⟨k - 1, by omega⟩; exact ha m)
  have hr' := fun k (hk : 0 < k) r (h : P r) => (show P (List.replicate k true ++ false :: r) from by obtain ⟨m, rfl⟩ : ∃ m, k = m + 1 := ⟨k - 1, by omega⟩; exact hr m r h)
  by_cases hz : runOf l = 0
  ·rw [hz] at h1 h2
   simp at h1 h2
   rcases h2 with h2 | ⟨r, h2⟩
   ·subst h2; exact h0
   ·subst h2
    exact hf _ (ih r.length (by simp at hn; omega) r rfl)
  ·rcases h2 with h2 | ⟨r, h2⟩
   ·rw [h2, append_nil] at h1
    rw [h1]
    exact ha' _ (by omega)
   ·rw [h2] at h1
    have hl : l.length = runOf l + (r.length + 1) := by
     have := congrArg List.length h1
     simpa using this
    rw [h1]
    exact hr' _ (by omega) r (ih r.length (by omega) r rfl)
theorem x7T (n i : Nat) : hol i (List.replicate (n + 1) true) = [(i, n + 1)] := by
 induction n generalizing i with
 | zero => rfl
 | succ n ih =>
  rw [replicate_succ]
  have e : List.replicate (n + 1) true = true :: List.replicate n true := replicate_succ
  have h := ih (i + 1)
  rw [e] at h ⊢
  rw [xEN i, h]
  rfl
theorem x7Z (n i : Nat) (l : List Bool) : hol i (List.replicate (n + 1) true ++ false :: l) = (i, n + 1) :: hol (i + n + 2) l := by
 induction n generalizing i with
 | zero => rfl
 | succ n ih =>
  rw [replicate_succ, cons_append]
  have e : List.replicate (n + 1) true ++ false :: l = true :: (List.replicate n true ++ false :: l) := by rw [replicate_succ, cons_append]
  have h := ih (i + 1)
  rw [e] at h ⊢
  rw [xEN i, h, show i + 1 + n + 2 = i + (n + 1) + 2 by omega]
  rfl
theorem xP6 (n : Nat) : runOf (List.replicate n true) = n := by
 induction n with
 | zero => simp [runOf]
 | succ n ih => rw [replicate_succ]; simp [runOf] at ih ⊢
theorem xM8 (n : Nat) (l : List Bool) : runOf (List.replicate n true ++ false :: l) = n := by
 induction n with
 | zero => simp [runOf]
 | succ n ih => rw [replicate_succ]; simp [runOf] at ih ⊢
theorem xJI (l : List Bool) (i : Nat) (h : runOf l = 0) : hol i l = hol (i + 1) (l.drop 1) := by
 cases l with
 | nil => rfl
 | cons b l =>
  cases b
  ·rfl
  ·simp [runOf] at h
theorem xLM (l : List Bool) (i : Nat) (h : 0 < runOf l) : hol i l = (i, runOf l) :: hol (i + runOf l + 1) (l.drop (runOf l + 1)) := by
 revert h i
 refine x7U (P := fun l => ∀ i, 0 < runOf l -> hol i l = (i, runOf l) :: hol (i + runOf l + 1) (l.drop (runOf l + 1))) ?_ ?_ ?_ ?_ l
 ·intro i h; simp [runOf] at h
 ·intro l _ i h; simp [runOf] at h
 ·intro n i _
  rw [xP6, x7T, drop_of_length_le (by simp)]
  rfl
 ·intro n l _ i _
  rw [xM8, x7Z]
  have : List.drop (n + 1 + 1) (List.replicate (n + 1) true ++ false :: l) = l := by
   rw [drop_append, drop_of_length_le (by simp)]; simp
  rw [this]; rfl
def setR (l : List Bool) (x y : Nat) (b : Bool) : List Bool := l.take x ++ List.replicate y b ++ l.drop (x + y)
theorem x0V (h : x + y <= l.length) (b : Bool) : (setR l x y b).length = l.length := by simp [setR]; omega
theorem x14 (h : x + y <= l.length) (b : Bool) (j : Nat) : (setR l x y b)[j]? = if x <= j /\ j < x + y then some b else l[j]? := by
 have h1 : (l.take x).length = x := by simp; omega
 rw [setR, append_assoc, List.getElem?_append, h1]
 by_cases ha : j < x
 ·rw [if_pos ha, if_neg (by omega), List.getElem?_take, if_pos ha]
 ·rw [if_neg ha, List.getElem?_append, length_replicate]
  by_cases hb : j - x < y
  ·rw [if_pos hb, if_pos (by omega), List.getElem?_replicate, if_pos hb]
  ·rw [if_neg hb, if_neg (by omega), List.getElem?_drop]; congr 1; omega
theorem xJV (l : List Bool) (x : Nat) (b : Bool) : setR l x 0 b = l := by simp [setR]
theorem xKU (h : x + y < l.length) (b : Bool) : (setR l x y b).set (x + y) b = setR l x (y + 1) b := by
 apply ext_getElem?
 intro j
 rw [List.getElem?_set, x14 (by omega), x14 (by omega), x0V (by omega)]
 by_cases hj : x + y = j
 ·subst hj; rw [if_pos rfl, if_pos h, if_pos (by omega)]
 ·rw [if_neg hj]
  by_cases hk : x <= j /\ j < x + y
  ·rw [if_pos hk, if_pos (by omega)]
  ·rw [if_neg hk, if_neg (by omega)]
def AllR (l : List Bool) (x y : Nat) (b : Bool) : Prop := x + y <= l.length /\ ∀ j, x <= j -> j < x + y -> l[j]? = some b
theorem AllR.same (h : AllR l x y b) : l = setR l x y b := by
 apply ext_getElem?
 intro j
 rw [x14 h.1]
 by_cases hk : x <= j /\ j < x + y
 ·rw [if_pos hk, h.2 j hk.1 hk.2]
 ·rw [if_neg hk]
theorem xL6 (h : x + y <= l.length) (b c : Bool) : setR (setR l x y b) x y c = setR l x y c := by
 apply ext_getElem?
 intro j
 rw [x14 (by rw [x0V h]; exact h), x14 h, x14 h]
 by_cases hk : x <= j /\ j < x + y
 ·rw [if_pos hk, if_pos hk]
 ·rw [if_neg hk, if_neg hk, if_neg hk]
def cnt (l : List Bool) : Nat := l.countP id
theorem x7E (l : List Bool) : cnt l <= l.length := List.countP_le_length
theorem xDH (h : x + y <= l.length) (b : Bool) : cnt (setR l x y b) = cnt (l.take x) + (if b then y else 0) + cnt (l.drop (x + y)) := by
 have : ∀ n : Nat, cnt (List.replicate n b) = if b then n else 0 := by
  intro n
  cases b <;> simp [cnt, countP_replicate]
 simp only [setR, cnt, List.countP_append] at this ⊢
 rw [this]
theorem xE1 (h : AllR l x y (!b)) : (cnt (setR l x y b) : Int) = cnt l + (if b then (y : Int) else -(y : Int)) := by
 have h1 := xDH h.1 b
 have h2 := xDH h.1 (!b)
 rw [<- h.same] at h2
 cases b <;> simp at h1 h2 ⊢ <;> omega
theorem x85 (l : List Bool) : ∀ i x y, (x, y) ∈ hol i l -> i <= x /\ 1 <= y /\ x + y <= i + l.length /\ ∀ j, x <= j -> j < x + y -> l[j - i]? = some true := by
 refine x7U (P := fun l => ∀ i x y, (x, y) ∈ hol i l -> i <= x /\ 1 <= y /\ x + y <= i + l.length /\ ∀ j, x <= j -> j < x + y -> l[j - i]? = some true) ?_ ?_ ?_ ?_ l
 ·intro i x y h; simp [hol] at h
 ·intro l ih i x y h
  rw [hol] at h
  obtain ⟨h1, h2, h3, h4⟩ := ih _ _ _ h
  refine ⟨by omega, h2, by simp; omega, fun j hj hk => ?_⟩
  have := h4 j hj hk
  rw [show j - i = (j - (i + 1)) + 1 by omega, List.getElem?_cons_succ]
  exact this
 ·intro n i x y h
  rw [x7T] at h
  simp at h
  obtain ⟨rfl, rfl⟩ := h
  refine ⟨by omega, by omega, by simp, fun j hj hk => ?_⟩
  rw [List.getElem?_replicate, if_pos (by omega)]
 ·intro n l ih i x y h
  rw [x7Z] at h
  simp only [mem_cons, Prod.mk.injEq] at h
  rcases h with ⟨rfl, rfl⟩ | h
  ·refine ⟨by omega, by omega, by simp, fun j hj hk => ?_⟩
   rw [List.getElem?_append_left (by simp; omega), List.getElem?_replicate, if_pos (by omega)]
  ·obtain ⟨h1, h2, h3, h4⟩ := ih _ _ _ h
   refine ⟨by omega, h2, by simp; omega, fun j hj hk => ?_⟩
   rw [List.getElem?_append_right (by simp; omega), length_replicate, show j - i - (n + 1) = (j - (i + n + 2)) + 1 by omega, List.getElem?_cons_succ]
   exact h4 j hj hk
theorem xJC (l : List Bool) : ∀ i, (hol i l).Pairwise (fun p q => p.1 + p.2 < q.1) := by
 refine x7U (P := fun l => ∀ i, (hol i l).Pairwise (fun p q => p.1 + p.2 < q.1)) ?_ ?_ ?_ ?_ l
 ·intro i; simp [hol]
 ·intro l ih i; rw [hol]; exact ih _
 ·intro n i; rw [x7T]; simp
 ·intro n l ih i
  rw [x7Z]
  refine pairwise_cons.2 ⟨fun q hq => ?_, ih _⟩
  obtain ⟨a, b⟩ := q
  have := (x85 l _ _ _ hq).1
  simp; omega
def lens (L : List (Nat × Nat)) : Nat := (L.map (·.2)).sum
theorem xE2 (l : List Bool) : ∀ i, lens (hol i l) = cnt l := by
 refine x7U (P := fun l => ∀ i, lens (hol i l) = cnt l) ?_ ?_ ?_ ?_ l
 ·intro i; rfl
 ·intro l ih i; rw [hol, ih]; simp [cnt]
 ·intro n i; rw [x7T]; simp [lens, cnt, countP_replicate]
 ·intro n l ih i
  rw [x7Z]
  have := ih (i + n + 2)
  simp only [lens, cnt, map_cons, sum_cons, List.countP_append, countP_replicate, List.countP_cons] at this ⊢
  simp only [id] at this ⊢
  rw [this]
  simp
def Longer (e q : Nat × Nat) : Prop := q.2 < e.2 ∨ (e.2 = q.2 /\ e.1 < q.1)
def Shorter (e q : Nat × Nat) : Prop := e.2 < q.2 ∨ (e.2 = q.2 /\ e.1 < q.1)
def Top (L : List (Nat × Nat)) (e : Nat × Nat) : Prop := e ∈ L /\ ∀ q, q ∈ L -> q = e ∨ Longer e q
def Fit (L : List (Nat × Nat)) (n : Nat) (e : Nat × Nat) : Prop := e ∈ L /\ n <= e.2 /\ ∀ q, q ∈ L -> n <= q.2 -> q = e ∨ Shorter e q
inductive Chosen : List (Nat × Nat) -> Nat -> List (Nat × Nat) -> Prop
 | none (L : List (Nat × Nat)) : Chosen L 0 []
 | fit {L : List (Nat × Nat)} {n : Nat} {e : Nat × Nat} : 0 < n -> Fit L n e -> Chosen L n [(e.1, n)]
 | long {L : List (Nat × Nat)} {n : Nat} {e : Nat × Nat} {r : List (Nat × Nat)} : Top L e -> e.2 < n -> Chosen (L.erase e) (n - e.2) r -> Chosen L n (e :: r)
theorem Top.one {L : List (Nat × Nat)} {e e' : Nat × Nat} (h : Top L e) (h' : Top L e') : e = e' := by
 rcases h.2 _ h'.1 with h1 | h1
 ·exact h1.symm
 ·rcases h'.2 _ h.1 with h2 | h2
  ·exact h2
  ·simp only [Longer] at h1 h2; omega
theorem Fit.one {L : List (Nat × Nat)} {e e' : Nat × Nat} (h : Fit L n e) (h' : Fit L n e') : e = e' := by
 rcases h.2.2 _ h'.1 h'.2.1 with h1 | h1
 ·exact h1.symm
 ·rcases h'.2.2 _ h.1 h.2.1 with h2 | h2
  ·exact h2
  ·simp only [Shorter] at h1 h2; omega
theorem Top.no_fit {L : List (Nat × Nat)} {e q : Nat × Nat} (h : Top L e) (hn : e.2 < n) (hq : Fit L n q) : False := by
 rcases h.2 _ hq.1 with h1 | h1
 ·subst h1; have := hq.2.1; omega
 ·have := hq.2.1; simp only [Longer] at h1; omega
theorem Chosen.zero {L r : List (Nat × Nat)} (h : Chosen L 0 r) : r = [] := by
 cases h with
 | none => rfl
 | fit h _ => omega
 | long _ h _ => omega
theorem Chosen.one {L a b : List (Nat × Nat)} (h : Chosen L n a) (h' : Chosen L n b) : a = b := by
 induction h generalizing b with
 | none L => exact h'.zero.symm
 | fit h0 hf =>
  cases h' with
  | none => omega
  | fit _ hf' => rw [hf.one hf']
  | long ht hn _ => exact (ht.no_fit hn hf).elim
 | long ht hn _ ih =>
  cases h' with
  | none => omega
  | fit _ hf' => exact (ht.no_fit hn hf').elim
  | long ht' hn' hr =>
   obtain rfl := ht.one ht'
   rw [ih hr]
theorem Top.perm {L L' : List (Nat × Nat)} {e : Nat × Nat} (hp : L.Perm L') (h : Top L e) : Top L' e := ⟨hp.mem_iff.1 h.1, fun q hq => h.2 q (hp.mem_iff.2 hq)⟩
theorem Fit.perm {L L' : List (Nat × Nat)} {e : Nat × Nat} (hp : L.Perm L') (h : Fit L n e) : Fit L' n e := ⟨hp.mem_iff.1 h.1, h.2.1, fun q hq => h.2.2 q (hp.mem_iff.2 hq)⟩
theorem Chosen.perm {L L' a : List (Nat × Nat)} (h : Chosen L n a) (hp : L.Perm L') : Chosen L' n a := by
 induction h generalizing L' with
 | none L => exact .none _
 | fit h0 hf => exact .fit h0 (hf.perm hp)
 | long ht hn _ ih => exact .long (ht.perm hp) hn (ih (hp.erase _))
def setA (l : List Bool) (es : List (Nat × Nat)) (b : Bool) : List Bool := es.foldl (fun l e => setR l e.1 e.2 b) l
def OkA : List Bool -> List (Nat × Nat) -> Bool -> Prop
 | _, [], _ => True
 | l, e :: es, b => AllR l e.1 e.2 (!b) /\ OkA (setR l e.1 e.2 b) es b
theorem x1T (l : List Bool) (e : Nat × Nat) (es : List (Nat × Nat)) (b : Bool) : setA l (e :: es) b = setA (setR l e.1 e.2 b) es b := rfl
theorem x94 (l : List Bool) (es fs : List (Nat × Nat)) (b : Bool) : setA l (es ++ fs) b = setA (setA l es b) fs b := by simp [setA]
theorem OkA.app {es fs : List (Nat × Nat)} : ∀ {l : List Bool}, OkA l (es ++ fs) b ↔ OkA l es b /\ OkA (setA l es b) fs b := by
 induction es with
 | nil => intro l; simp [OkA, setA]
 | cons e es ih => intro l; simp only [cons_append, OkA, x1T, ih, and_assoc]
theorem OkA.len {es : List (Nat × Nat)} : ∀ {l : List Bool}, OkA l es b -> (setA l es b).length = l.length := by
 induction es with
 | nil => intro l _; rfl
 | cons e es ih => intro l h; rw [x1T, ih h.2, x0V h.1.1]
def Cov (es : List (Nat × Nat)) (j : Nat) : Prop := ∃ e ∈ es, e.1 <= j /\ j < e.1 + e.2
theorem Cov.cons {e : Nat × Nat} {es : List (Nat × Nat)} {j : Nat} : Cov (e :: es) j ↔ (e.1 <= j /\ j < e.1 + e.2) ∨ Cov es j := by
  simp [Cov]
theorem OkA.at_ {es : List (Nat × Nat)} : ∀ {l : List Bool}, OkA l es b -> ∀ j, (Cov es j -> (setA l es b)[j]? = some b /\ l[j]? = some (!b)) /\ (¬ Cov es j -> (setA l es b)[j]? = l[j]?) := by
 induction es with
 | nil => intro l _ j; exact ⟨fun h => by simp [Cov] at h, fun _ => rfl⟩
 | cons e es ih =>
  intro l h j
  have h2 := ih h.2 j
  rw [x14 h.1.1] at h2
  rw [x1T, Cov.cons]
  by_cases hc : Cov es j
  ·have h3 := h2.1 hc
   by_cases he : e.1 <= j /\ j < e.1 + e.2
   ·rw [if_pos he] at h3
    cases b <;> simp at h3
   ·rw [if_neg he] at h3
    exact ⟨fun _ => h3, fun hn => absurd (.inr hc) hn⟩
  ·have h3 := h2.2 hc
   rw [h3]
   by_cases he : e.1 <= j /\ j < e.1 + e.2
   ·rw [if_pos he]
    exact ⟨fun _ => ⟨rfl, h.1.2 j he.1 he.2⟩, fun hn => absurd (.inl he) hn⟩
   ·rw [if_neg he]
    exact ⟨fun hh => (hh.elim (fun h => absurd h he) (fun h => absurd h hc)), fun _ => rfl⟩
theorem OkA.cnt {es : List (Nat × Nat)} : ∀ {l : List Bool}, OkA l es b -> (cnt (setA l es b) : Int) = cnt l + (if b then (lens es : Int) else -(lens es : Int)) := by
 induction es with
 | nil => intro l _; simp [setA, lens]
 | cons e es ih =>
  intro l h
  have h1 := xE1 h.1
  have h2 := ih h.2
  rw [x1T, h2, h1]
  cases b <;> simp [lens] <;> omega
theorem OkA.back {es : List (Nat × Nat)} (h : OkA l es b) : OkA (setA l es b) es (!b) /\ setA (setA l es b) es (!b) = l := by
 induction es generalizing l with
 | nil => exact ⟨trivial, rfl⟩
 | cons e es ih =>
  have hall := h.at_
  obtain ⟨i1, i2⟩ := ih h.2
  have hlen := h.2.len
  rw [x0V h.1.1] at hlen
  have hA : AllR (setA l (e :: es) b) e.1 e.2 (!!b) := by
   refine ⟨by rw [h.len]; exact h.1.1, fun j hj hk => ?_⟩
   rw [((hall j).1 (Cov.cons.2 (.inl ⟨hj, hk⟩))).1, Bool.not_not]
  -- turning e back first is as turning it back last
  have hcom : ∀ j, Cov es j -> ¬ (e.1 <= j /\ j < e.1 + e.2) := by
   intro j hc he
   have := ((h.2.at_ j).1 hc).2
   rw [x14 h.1.1, if_pos he] at this
   cases b <;> simp at this
  have key : ∀ (fs : List (Nat × Nat)) (m : List Bool), (∀ f ∈ fs, ∀ j, f.1 <= j -> j < f.1 + f.2 -> ¬ (e.1 <= j /\ j < e.1 + e.2)) -> e.1 + e.2 <= m.length -> OkA m fs (!b) -> OkA (setR m e.1 e.2 (!b)) fs (!b) /\ setA (setR m e.1 e.2 (!b)) fs (!b) = setR (setA m fs (!b)) e.1 e.2 (!b) := by
   intro fs
   induction fs with
   | nil => intro m _ _ _; exact ⟨trivial, rfl⟩
   | cons f fs ihf =>
    intro m hd hm ho
    have hf := hd f (mem_cons_self ..)
    have hc : setR (setR m e.1 e.2 (!b)) f.1 f.2 (!b) = setR (setR m f.1 f.2 (!b)) e.1 e.2 (!b) := by
     apply ext_getElem?
     intro j
     rw [x14 (by rw [x0V hm]; exact ho.1.1), x14 hm, x14 (by rw [x0V ho.1.1]; exact hm), x14 ho.1.1]
     by_cases h1 : f.1 <= j /\ j < f.1 + f.2 <;> by_cases h2 : e.1 <= j /\ j < e.1 + e.2 <;> simp [h1, h2]
    obtain ⟨k1, k2⟩ := ihf (setR m f.1 f.2 (!b)) (fun g hg => hd g (kM _ hg)) (by rw [x0V ho.1.1]; exact hm) ho.2
    refine ⟨⟨⟨by rw [x0V hm]; exact ho.1.1, fun j hj hk => ?_⟩, by rw [hc]; exact k1⟩, by rw [x1T, x1T, hc]; exact k2⟩
    rw [x14 hm, if_neg (hf j hj hk)]
    exact ho.1.2 j hj hk
  obtain ⟨k1, k2⟩ := key es (setA (setR l e.1 e.2 b) es b) (fun f hf j hj hk => hcom j ⟨f, hf, hj, hk⟩) (by rw [hlen]; exact h.1.1) i1
  refine ⟨⟨hA, k1⟩, ?_⟩
  rw [x1T l, x1T _ e, k2, i2, xL6 h.1.1, <- h.1.same]
def Sound (l : List Bool) (L : List (Nat × Nat)) : Prop := L.Nodup /\ (∀ e ∈ L, AllR l e.1 e.2 true) /\ ∀ p ∈ L, ∀ q ∈ L, p ≠ q -> p.1 + p.2 <= q.1 ∨ q.1 + q.2 <= p.1
theorem x4R (l : List Bool) : Sound l (hol 0 l) := by
  have hr := xJC l 0
  refine ⟨hr.imp (fun {p q} h e => by subst e; omega), fun e he => ?_, fun p hp q hq hne => ?_⟩
  · obtain ⟨x, y⟩ := e
    obtain ⟨_, _, h3, h4⟩ := x85 l 0 x y he
    exact ⟨by omega, fun j hj hk => h4 j hj hk⟩
  · have : ∀ (L : List (Nat × Nat)), L.Pairwise (fun p q => p.1 + p.2 < q.1) -> p ∈ L -> q ∈ L -> p.1 + p.2 <= q.1 ∨ q.1 + q.2 <= p.1 := by
      intro L hL
      induction hL with
      | nil => intro h; simp at h
      | cons h _ ih =>
        intro h1 h2
        rcases kQ h1 with e1 | h1 <;> rcases kQ h2 with e2 | h2
        · exact absurd (e1.trans e2.symm) hne
        · have := h _ h2; rw [<- e1] at this; omega
        · have := h _ h1; rw [<- e2] at this; omega
        · exact ih h1 h2
    exact this _ hr hp hq
theorem Chosen.ok {L out : List (Nat × Nat)} (h : Chosen L n out) : ∀ {l : List Bool}, Sound l L -> OkA l out false /\ lens out = n := by
 induction h with
 | none L => intro l _; exact ⟨trivial, rfl⟩
 | @fit L n e h0 hf =>
  intro l hs
  have := hs.2.1 _ hf.1
  have hn := hf.2.1
  exact ⟨⟨⟨by have := this.1; simp; omega, fun j hj hk => this.2 j hj (by simp at hk; omega)⟩, trivial⟩, by simp [lens]⟩
 | @long L n e r ht hn _ ih =>
  intro l hs
  have he := hs.2.1 _ ht.1
  have hs' : Sound (setR l e.1 e.2 false) (L.erase e) := by
   refine ⟨hs.1.erase _, fun q hq => ?_, fun p hp q hq => hs.2.2 p (mem_of_mem_erase hp) q (mem_of_mem_erase hq)⟩
   have hq1 := mem_of_mem_erase hq
   have hne : e ≠ q := fun h => by subst h; exact (List.Nodup.not_mem_erase hs.1) hq
   have hd := hs.2.2 _ ht.1 _ hq1 hne
   refine ⟨by rw [x0V he.1]; exact (hs.2.1 _ hq1).1, fun j hj hk => ?_⟩
   rw [x14 he.1, if_neg (by omega)]
   exact (hs.2.1 _ hq1).2 j hj hk
  obtain ⟨h1, h2⟩ := ih hs'
  exact ⟨⟨he, h1⟩, by simp [lens] at h2 ⊢; omega⟩
theorem Chosen.few {L out : List (Nat × Nat)} (h : Chosen L n out) : out.length <= L.length /\ ((∃ e ∈ L, n <= e.2) -> out.length <= 1) /\ (0 < n -> 0 < out.length) := by
 induction h with
 | none L => simp
 | fit h0 hf =>
  have := length_pos_of_mem hf.1
  simp; omega
 | @long L n e r ht hn _ ih =>
  have := List.length_erase_of_mem ht.1
  have := length_pos_of_mem ht.1
  refine ⟨by simp; omega, fun ⟨q, hq, hle⟩ => ?_, fun _ => by simp⟩
  rcases ht.2 q hq with rfl | h1
  ·omega
  ·simp only [Longer] at h1; omega
section
def ext1 (e : Int × Int) : List Value := [.int .i64 e.1, .int .i64 e.2]
def extS (l : List (Int × Int)) : List Value := l.flatMap ext1
def natE (l : List (Nat × Nat)) : List (Int × Int) := l.map fun e => ((e.1 : Int), (e.2 : Int))
theorem xEK (e : Int × Int) : (ext1 e).length = 2 := rfl
theorem x6C (l : List (Int × Int)) : (extS l).length = l.length * 2 := by
 induction l with
 | nil => rfl
 | cons e l ih => simp [extS, ext1] at ih ⊢; omega
theorem xG9 {l : List (Int × Int)} {e : Int × Int} (h : l[k]? = some e) : (extS l)[k * 2]? = some (.int .i64 e.1) /\ (extS l)[k * 2 + 1]? = some (.int .i64 e.2) :=
  ⟨by have := x1K ext1 2 xEK l k 0 e h (by omega); simpa [extS, ext1] using this, by have := x1K ext1 2 xEK l k 1 e h (by omega); simpa [extS, ext1] using this⟩
theorem x46 (l : List (Int × Int)) : ∀ u ∈ extS l, u.oneCell' = true := by
 intro u hu
 obtain ⟨e, _, he⟩ := mem_flatMap.1 hu
 simp [ext1] at he
 rcases he with rfl | rfl <;> rfl
def ExtR (w : World) (B : Nat) (A : OA) (l : List (Int × Int)) : Prop := Reads w B 2 A l.length (extS l)
theorem ExtR.get {l : List (Int × Int)} (h : ExtR w B A l) (hk : k < l.length) : ∃ ad e, A = some ad /\ ad.block < B /\ l[k]? = some e /\ w.cell? (ad.add (k * 2)) = some (.int .i64 e.1) /\ w.cell? ((ad.add (k * 2)).add 1) = some (.int .i64 e.2) := by
 obtain ⟨ad, e, hb, hc⟩ := h.2 (by omega)
 have he := List.getElem?_eq_getElem hk
 obtain ⟨h1, h2⟩ := xG9 he
 exact ⟨ad, _, e, hb, he, hc _ _ h1, by rw [x1Q]; exact hc _ _ h2⟩
theorem ExtR.only {F : LN} {l : List (Int × Int)} (h : ExtR w B A l) (ho : Only F w w') (hB : B <= w.heap.size) (ha : ∀ ad, A = some ad -> ad.block ∉ F) : ExtR w' B A l :=
 ⟨h.1, fun hn => by
  obtain ⟨ad, e, hb, hc⟩ := h.2 hn
  exact ⟨ad, e, hb, fun j u hu => (ho.cell (by rw [x0K]; omega) (by rw [x0K]; exact ha ad e)).trans (hc j u hu)⟩⟩
theorem x4O (w : World) (p : Addr) (e : Int × Int) (h0 : w.cell? p = some (.int .i64 e.1)) (h1 : w.cell? (p.add 1) = some (.int .i64 e.2)) : (loadVar 198 p).run prog w = .ok (.agg #[.int .i64 e.1, .int .i64 e.2]) w := by
 have hc : ∀ j v, (ext1 e)[j]? = some v -> w.cell? (p.add j) = some v := fun j v hj => by
  match j, hj with
  | 0, hj => simp [ext1] at hj; subst hj; simpa [Addr.add] using h0
  | 1, hj => simp [ext1] at hj; subst hj; exact h1
 have hl : (loadCells p 2).run prog w = .ok (ext1 e).toArray w := run_loadCells_list (P := prog) w p (ext1 e) hc
 have hagg : (isAgg 198).run prog w = .ok true w := by
  unfold isAgg
  rw [Sem.run_bind, run_underlying underlying198 w]
  rfl
 have hi : (prog.info? 198).map (·.size) = some 2 := by kernel_rfl
 cases hq : prog.info? 198 with
 | none => simp [hq] at hi
 | some i =>
  have hs : i.size = 2 := by simpa [hq] using hi
  simp [loadVar, Sem.run_bind, hagg, sizeOf, typeInfo, hq, hs, hl]
  rfl
theorem x29 {ops : Array Oper} {rest : List Oper} {op : Oper} {a : Act} {Q : Exit -> Act -> World -> Prop} (hgd : op.guard = none) (x : Operand) (ho : op.op = .load 198 x)
 (p : Addr) (hx : a.eval x = .pointer (some p)) (e : Int × Int) (h0 : w.cell? p = some (.int .i64 e.1)) (h1 : w.cell? (p.add 1) = some (.int .i64 e.2))
 (h : wpList prog ops Q rest (a.put op.dst (.agg #[.int .i64 e.1, .int .i64 e.2])) w) : wpList prog ops Q (op :: rest) a w :=
 wpList_plain hgd fun _ hK => by
  unfold Oper.wp execOp
  simp only [ho, hx, Instr.loadAt, Instr.sureAddr, Sem.run_bind, Sem.run_pure, kS, x4O w p e h0 h1]
  exact hK _ _ h
def FRow (w : World) (r : Nat) (A : OA) (fl : List Bool) : Prop := fl = [] ∨ (A = some ⟨r, 0, none⟩ /\ ∃ cs : Array Value, Blk w r 4 cs /\ ∀ (j : Nat) (v : Bool), fl[j]? = some v -> cs[j]? = some (.bool v))
structure SAt (w : World) (g r : Nat) (A : OA) (c : Nat) (fl : List Bool) (left : Int) : Prop where
 blk : Blk w g 190 #[.slice A fl.length c, .int .i64 left]
 cap : fl.length <= c
 lim : fl.length <= 65536
 row : FRow w r A fl
section
variable {w w' : World} {g r c : Nat} {A : OA} {fl : List Bool} {left : Int}
theorem FRow.of (h : FRow w r A fl) (hk : ∀ t cs, Blk w r t cs -> w'.heap[r]? = w.heap[r]?) : FRow w' r A fl := by
 rcases h with h | ⟨h, cs, hb, hc⟩
 ·exact .inl h
 ·exact .inr ⟨h, cs, hb.of (hk _ _ hb), hc⟩
theorem FRow.reads (h : FRow w r A fl) : Reads w (r + 1) 1 A fl.length (flagsS fl) := by
 rcases h with rfl | ⟨rfl, cs, hb, hc⟩
 ·exact ⟨rfl, fun h => by simp at h⟩
 ·refine ⟨by simp [flagsS], fun _ => ⟨_, rfl, Nat.lt_succ_self _, fun j u hu => ?_⟩⟩
  rw [x19, hb.cell]
  simp only [flagsS, List.getElem?_map, Option.map_eq_some_iff] at hu
  obtain ⟨v, hv, rfl⟩ := hu
  exact hc j v hv
theorem FRow.set (h : FRow w r A fl) {j : Nat} (hj : j < fl.length) (b : Bool) : FRow (w.setCell ⟨r, j, none⟩ (.bool b)) r A (fl.set j b) := by
 rcases h with rfl | ⟨h, cs, hb, hc⟩
 ·simp at hj
 ·refine .inr ⟨h, _, hb.set_ j _, fun k v hv => ?_⟩
  rw [List.getElem?_set] at hv
  have hjc : j < cs.size := by
   have := hc j _ (List.getElem?_eq_getElem hj)
   exact (Array.getElem?_eq_some_iff.1 this).1
  rw [Array.getElem?_setIfInBounds]
  by_cases hk : j = k
  ·subst hk
   rw [if_pos rfl, if_pos hj] at hv
   injection hv with hv
   rw [if_pos rfl, if_pos hjc, hv]
  ·rw [if_neg hk] at hv
   rw [if_neg hk]
   exact hc k v hv
theorem FRow.cell (h : FRow w r A fl) {j : Nat} (hj : j < fl.length) : A = some ⟨r, 0, none⟩ /\ (∃ v, w.cell? ⟨r, j, none⟩ = some (.bool v)) /\ w.frozen? ⟨r, j, none⟩ = false /\ r < w.heap.size /\ ∃ cs : Array Value, Blk w r 4 cs := by
 rcases h with rfl | ⟨h, cs, hb, hc⟩
 ·simp at hj
 ·exact ⟨h, ⟨_, by rw [hb.cell]; exact hc j _ (List.getElem?_eq_getElem hj)⟩, hb.frozen j, hb.lt, cs, hb⟩
theorem SAt.of (h : SAt w g r A c fl left) (hg : w'.heap[g]? = w.heap[g]?) (hr : ∀ t cs, Blk w r t cs -> w'.heap[r]? = w.heap[r]?) : SAt w' g r A c fl left := ⟨h.blk.of hg, h.cap, h.lim, h.row.of hr⟩
end
theorem x96 {r : Nat} {fl : List Bool} (es : List (Nat × Nat)) (b : Bool) (hok : OkA fl es b) (h : SAt w g r A c fl (cnt fl)) (hgr : g ≠ r) (E : OA) (c' : Nat) (hR : ExtR w B E (natE es)) (hB : B <= w.heap.size)
 (hfar : ∀ ad, E = some ad -> ad.block ≠ g /\ ad.block ≠ r) (hle : es.length <= 65536) :
  Calls prog 215 #[.pointer (some ⟨g, 0, none⟩), .slice E es.length c', .bool b] w fun e w' => e = .returned (.tuple #[]) /\ Only [g, r] w w' /\ SAt w' g r A c (setA fl es b) (cnt (setA fl es b)) := by
 have H0 := kH h
 have HR := kH hR
 have HF := kH hfar
 have HO := kH hok
 have hn : (natE es).length = es.length := by simp [natE]
 have HN := kH hn
 clear h hR hfar hok hn
 go_enter func215, ntmps215
 go_wp2
 go_loopw [11] (fun i wr => ∃ k : Nat, k <= es.length /\ i = .int .i64 k /\ Only [g, r] w wr /\ SAt wr g r A c (setA fl (es.take k) b) (cnt (setA fl (es.take k) b))) (fun i _ => es.length - (intS i).toNat)
 case atStart => exact ⟨0, by omega, rfl, kU _ _, by simpa [setA] using H0.out⟩
 case round =>
  obtain ⟨k, hk, rfl, ho, hs⟩ := hrel
  obtain ⟨wo, hwo⟩ := kX wr
  subst hwo
  have hRr : ExtR wo B E (natE es) := HR.out.only ho hB (fun ad h => by have := HF.out ad h; simp; omega)
  have HS := kH hs
  have HOn := kH ho
  clear hs ho
  by_cases hlt : k < es.length
  ·obtain ⟨ad, e, rfl, hab, he, hc0, hc1⟩ := hRr.get (k := k) (by rw [HN.out]; exact hlt)
   clear hRr
   obtain ⟨⟨x, y⟩, hek⟩ : ∃ e, es[k]? = some e := ⟨_, List.getElem?_eq_getElem hlt⟩
   obtain rfl : e = ((x : Int), (y : Int)) := by
    simp only [natE, List.getElem?_map, hek, Option.map_some, Option.some.injEq] at he
    exact he.symm
   have htk := take_add_one (l := es) (i := k)
   rw [hek] at htk
   have hall : AllR (setA fl (es.take k) b) x y (!b) := by
    have h := HO.out
    rw [<- take_append_drop (k + 1) es, htk, OkA.app, OkA.app] at h
    exact h.1.2.1
   have hset : setA fl (es.take (k + 1)) b = setR (setA fl (es.take k) b) x y b := by rw [htk, x94]; rfl
   have HT := kH hset
   have hlim := HS.out.lim
   clear htk he hset hek
   generalize setA fl (es.take k) b = f1 at *
   have HA := kH hall
   have hxy := hall.1
   have hcl := x7E f1
   have hct := xE1 hall
   clear hall
   go_wp2_with (refine x29 rfl (.tmp 13) rfl _ rfl _ hc0 hc1 ?_)
   have B1 := kW wo 198 #[.int .i64 (x : Int), .int .i64 (y : Int)]
   have S1 : SAt (wo.alloc (.cells #[.int .i64 (x : Int), .int .i64 (y : Int)] 198)) g r A c f1 (cnt f1) := HS.out.of (kG _ _ _ HS.out.blk.lt) (fun _ _ hb => kG _ _ _ hb.lt)
   have O1 : Only [g, r] wo (wo.alloc (.cells #[.int .i64 (x : Int), .int .i64 (y : Int)] 198)) := (kU _ _).alloc _
   have hgl := HS.out.blk.lt
   have hs1 : wo.heap.size < (wo.alloc (.cells #[.int .i64 (x : Int), .int .i64 (y : Int)] 198)).heap.size := by simp
   clear hc0 hc1
   generalize wo.alloc (.cells #[.int .i64 (x : Int), .int .i64 (y : Int)] 198) = w1 at *
   have hgb : g ≠ wo.heap.size := by omega
   have HW := kH (kA O1 HOn.out)
   clear O1 HOn
   generalize wo.heap.size = gb at *
   have HB1 := kH B1
   have HS1 := kH S1
   clear B1 S1
   go_loopw [8, 17] (fun _ i wi => ∃ j : Nat, j <= y /\ i = .int .i64 j /\ Only [g, r] w1 wi /\ Blk wi gb 198 #[.int .i64 (x : Int), .int .i64 (y : Int)] /\ SAt wi g r A c (setR f1 x j b) (cnt f1)) (fun _ i _ => y - (intS i).toNat)
   case atStart => exact ⟨0, by omega, rfl, kU _ _, HB1.out, by rw [xJV]; exact HS1.out⟩
   case round =>
    obtain ⟨j, hj, rfl, ho, hb, hs⟩ := hrel
    by_cases hlj : j < y
    ·have hl2 : (setR f1 x j b).length = f1.length := x0V (by omega) b
     have q0 : wr.cell? ⟨g, 0, none⟩ = some (.slice A f1.length c) := by rw [hs.blk.cell, hl2]; rfl
     have q1 : wr.cell? ⟨gb, 0, none⟩ = some (.int .i64 (x : Int)) := hb.cell 0
     obtain ⟨rfl, ⟨v, q2⟩, q3, hrl, -⟩ := hs.row.cell (j := x + j) (by rw [hl2]; omega)
     have hs2 : (⟨r, 0, none⟩ : Addr).add (x + j) = ⟨r, x + j, none⟩ := x19 _ _
     have q2' : wr.cell? ((⟨r, 0, none⟩ : Addr).add (x + j)) = some (.bool v) := by rw [hs2]; exact q2
     have q3' : wr.frozen? ((⟨r, 0, none⟩ : Addr).add (x + j)) = false := by rw [hs2]; exact q3
     have hix : ((x : Int) + (j : Int)).toNat = x + j := by omega
     have hwx : IntKind.i64.wrap ((x : Int) + (j : Int)) = (x : Int) + (j : Int) := by rw [kI]; omega
     have HSs := kH hs
     have HBs := kH hb
     have HOs := kH ho
     clear hs hb ho
     go_wp2
     go_region
     all_goals go_wp2
     all_goals
      refine ⟨⟨j + 1, by omega, by go_num, (HOs.out.setCell (.inl (by simp)) _).drew, ?_, ?_⟩, by simp [intS]; omega⟩
      ·exact HBs.out.far (p := ⟨r, x + j, none⟩) (by show gb ≠ r; exact HBs.out.ne_ ((HSs.out.row.cell (j := x + j) (by rw [hl2]; omega)).2.2.2.2.choose_spec) (by decide)) _
      ·have h0 := HSs.out
       refine ⟨?_, by rw [x0V (by omega)]; have := h0.cap; rw [hl2] at this; exact this, by rw [x0V (by omega)]; exact hlim, ?_⟩
       ·have := h0.blk.far (p := ⟨r, x + j, none⟩) (by show g ≠ r; exact hgr) (.bool b)
        rw [hl2] at this
        rw [x0V (by omega)]
        exact this
       ·have := h0.row.set (j := x + j) (by rw [hl2]; omega) b
        rw [xKU (by omega)] at this
        exact this
    ·obtain rfl : j = y := by omega
     have hl2 : (setR f1 x j b).length = f1.length := x0V (by omega) b
     have q1 : wr.cell? ⟨g, 1, none⟩ = some (.int .i64 (cnt f1)) := hs.blk.cell 1
     have q2 : wr.cell? ⟨gb, 1, none⟩ = some (.int .i64 (j : Int)) := hb.cell 1
     have q3 : wr.frozen? ⟨g, 1, none⟩ = false := hs.blk.frozen 1
     have hwa : IntKind.i64.wrap ((cnt f1 : Int) + (j : Int)) = (cnt f1 : Int) + (j : Int) := by rw [kI]; omega
     have hwb : IntKind.i64.wrap ((cnt f1 : Int) - (j : Int)) = (cnt f1 : Int) - (j : Int) := by rw [kI]; omega
     have HSs := kH hs
     have HBs := kH hb
     have HOs := kH ho
     have HCt := kH hct
     clear hs hb ho hct
     have hend : ∀ (d : Int), d = (cnt (setR f1 x j b) : Int) -> Only [g, r] w (wr.setCell ⟨g, 1, none⟩ (.int .i64 d)) /\ SAt (wr.setCell ⟨g, 1, none⟩ (.int .i64 d)) g r A c (setA fl (es.take (k + 1)) b) (cnt (setA fl (es.take (k + 1)) b)) := by
      intro d hd
      have h0 := HSs.out
      refine ⟨((HW.out.2.trans HW.out.1 (kF _ _)).trans (HOs.out.setCell (.inl (by simp)) _) (kF _ _)), ?_⟩
      rw [HT.out]
      refine ⟨?_, h0.cap, h0.lim, h0.row.of fun t cs hb => kE _ _ _ _ (by show r ≠ g; exact fun e => hgr e.symm)⟩
      have := h0.blk.set_ 1 (.int .i64 d)
      rw [hd] at this ⊢
      exact this
     have HE := kH hend
     clear hend
     cases b
     ·go_wp2
      go_region
      all_goals go_wp2
      all_goals
       have h1 := HE.out ((cnt f1 : Int) - (j : Int)) (by have := HCt.out; simp at this; omega)
       exact ⟨⟨k + 1, by omega, by go_num, h1.1.drew, h1.2.of rfl (fun _ _ _ => rfl)⟩, by simp [intS]; omega⟩
     ·go_wp2
      go_region
      all_goals go_wp2
      all_goals
       have h1 := HE.out ((cnt f1 : Int) + (j : Int)) (by have := HCt.out; simp at this; omega)
       exact ⟨⟨k + 1, by omega, by go_num, h1.1.drew, h1.2.of rfl (fun _ _ _ => rfl)⟩, by simp [intS]; omega⟩
  ·obtain rfl : k = es.length := by omega
   go_wp2
   refine kZ (results_none rfl _ _ _) rfl ?_
   have h := HS.out
   rw [take_length] at h
   exact ⟨rfl, HOn.out, h⟩
end
section
theorem x3G : (prog.info? 198).map (fun i => (i.zero, i.size, i.bytes)) = some (some (.agg #[.int .i64 0, .int .i64 0]), 2, 16) := by kernel_rfl
def OwnE (w : World) (base : Nat) (v : Value) (l : List (Int × Int)) : Prop := w.ownsRow base 198 2 v l.length (extS l)
section
variable {w w' : World} {base n c : Nat} {A : OA} {v : Value} {l : List (Int × Int)}
theorem OwnE.ext (h : OwnE w base (.slice A l.length c) l) : ExtR w w.heap.size A l := kV h
theorem OwnE.weaken {base' : Nat} (h : OwnE w base v l) (hb : base' <= base) : OwnE w base' v l := x0B h hb
theorem OwnE.form (h : OwnE w base v l) : ∃ (A : OA) (cap : Nat), v = .slice A l.length cap /\ (∀ a, A = some a -> base <= a.block /\ a.block < w.heap.size /\ a = ⟨a.block, 0, none⟩) := by
 rcases h.2 with ⟨rfl, h0⟩ | ⟨g, cap, cur, rfl, hb, hh, _⟩
 ·exact ⟨none, 0, by rw [h0], fun a e => by cases e⟩
 ·refine ⟨_, cap, rfl, fun a e => ?_⟩
  injection e with e
  subst e
  exact ⟨hb, Blk.lt (t := 198) hh, rfl⟩
theorem OwnE.below (h : OwnE w base v l) (hb : Below B w w') (hB : ∀ k, k ∈ rowOf v -> k < B) : OwnE w' base v l := x06 h fun k hk => hb.block k (hB k hk)
theorem OwnE.nil (w : World) (base : Nat) : OwnE w base (.slice none 0 0) [] := World.ownsRow_nil w base _ 2
end
theorem x88 {ops : Array Oper} {rest : List Oper} {o : Oper} {a : Act} {Q : Exit -> Act -> World -> Prop} (s x : Operand)
 (hgd : o.guard = none) (ho : o.op = .call {callee := .builtin .append, args := #[s, x], argTypes := #[135, 135] })
 (base : Nat) (v : Value) (l : List (Int × Int)) (hs : a.eval s = v) (hown : OwnE w base v l)
 (B : Nat) (A : OA) (m c : Nat) (news : List (Int × Int)) (hx : a.eval x = .slice A m c) (hm : m = news.length) (hr : ExtR w B A news)
 (hsz : l.length + m <= 10000000) (hbase : base <= w.heap.size)
 (h : ∀ v' w', OwnE w' base v' (l ++ news) -> w.grownBy w' v.ownBlock -> (v'.ownBlock = v.ownBlock ∨ v'.ownBlock = some w.heap.size) -> wpList prog ops Q rest (a.put o.dst v') w') :
  wpList prog ops Q (o :: rest) a w := by
 subst hm
 obtain ⟨i0, hi0, hz0, hz1, hz2⟩ := info_parts x3G
 refine x0Z w hgd s x _ ho base 198 i0 _ 2 16 underlying135 hi0 hz0 hz1 hz2 rfl (by omega) v l.length (extS l) hs hown B A news.length c (extS news) hx hr (x46 _) (by simp only [maxLen]; omega) (by omega) hbase ?_
 intro v' w' h1 h2 h3
 exact h v' w' (by unfold OwnE; rw [extS, flatMap_append, kN]; exact h1) h2 h3
theorem x2F (v : Int × Int) (w : World) : (Instr.buildSlice 135 1 #[(0, .agg #[.int .i64 v.1, .int .i64 v.2])]).run prog w = .ok (.slice (some ⟨w.heap.size, 0, none⟩) 1 1) (w.alloc (.cells (ext1 v).toArray 198)) :=
  x1D (size := 2) underlying135 (by kernel_rfl) (by omega) (by omega) rfl w
theorem x41 (w : World) (v : Int × Int) : ExtR (w.alloc (.cells (ext1 v).toArray 198)) (w.heap.size + 1) (some ⟨w.heap.size, 0, none⟩) [v] := by
 have := Reads.newN w (ext1 v) 1 2 198 (0, 0) rfl
 simpa [ExtR, extS] using this
theorem xI7 {r : Nat} {fl : List Bool} (h : SAt w g r A c fl left) :
  Calls prog 214 #[.pointer (some ⟨g, 0, none⟩)] w fun e w' => ∃ v, e = .returned v /\ OwnE w' w.heap.size v (natE (hol 0 fl)) /\ Below w.heap.size w w' := by
 have H := kH h
 have hlim := h.lim
 have hcap := h.cap
 have hgl := h.blk.lt
 have hrl : ∀ wx, Below w.heap.size w wx -> SAt wx g r A c fl left := fun wx hb => h.of (hb.block g hgl) (fun _ _ hx => hb.block r hx.lt)
 have HK := kH hrl
 clear h hrl
 go_enter func214, ntmps214
 go_wp2
 go_loopw [3, 4] (fun v i wr => ∃ (k : Nat) (l : List (Int × Int)), k <= fl.length + 1 /\ i = .int .i64 k /\ OwnE wr w.heap.size v l /\ l.length <= k /\ Below w.heap.size w wr /\ l ++ natE (hol k (fl.drop k)) = natE (hol 0 fl)) (fun _ i _ => fl.length + 2 - (intS i).toNat)
 case atStart => exact ⟨0, [], by omega, rfl, OwnE.nil _ _, by simp, kB _ _, by simp⟩
 case round =>
  obtain ⟨k, l, hk, rfl, ho, hlk, hb, hl⟩ := hrel
  obtain ⟨A1, cap, rfl, hA1⟩ := ho.form
  have hs := HK.out _ hb
  have HL := kH hl
  have HO := kH ho
  have HB := kH hb
  have HS := kH (x4K hs.blk)
  have hrb := hs.row.reads
  have HF := fun (hk : k <= fl.length) => xE3 fl k hk hcap (by omega) hs.blk hrb
  clear hl ho hb hs hA1 hrb
  by_cases hlt : k < fl.length
  ·have HF' := kH (HF (by omega))
   clear HF
   have hru := xQ1 (fl.drop k)
   rw [length_drop] at hru
   have h0 := xJI (fl.drop k) k
   have h1 := xLM (fl.drop k) k
   rw [drop_drop] at h0 h1
   have HH := kH (kA h0 h1)
   clear h0 h1
   generalize runOf (fl.drop k) = n at *
   go_wp2_with fail
   refine HS.out.mono ?_
   rintro e w' ⟨rfl, rfl⟩
   go_wp2_with fail
   refine HF'.out.mono ?_
   rintro e w' ⟨rfl, rfl⟩
   by_cases hn : n = 0
   ·have hN := HH.out.1 hn
    have HN := kH hN
    clear hN HH
    subst hn
    go_wp2
    go_roundw
    case rel => exact ⟨k + 1, l, by omega, by go_num, HO.out, by omega, HB.out, by rw [<- HN.out]; exact HL.out⟩
    case measure => simp [intS]; omega
   ·have hd : decide ((0 : Int) < (n : Int)) = true := decide_eq_true (by omega)
    have hN := HH.out.2 (by omega)
    have HN := kH hN
    clear hN HH
    have hbz := HB.out.size
    have hex := x41 wr ((k : Int), (n : Int))
    have how : OwnE (wr.alloc (.cells (ext1 ((k : Int), (n : Int))).toArray 198)) w.heap.size (.slice A1 l.length cap) l := HO.out.alloc _
    have HX := kH (kA hex how)
    clear hex how
    have hbw : Below w.heap.size w (wr.alloc (.cells (ext1 ((k : Int), (n : Int))).toArray 198)) := HB.out.alloc (by omega) _
    have HBW := kH hbw
    clear hbw
    have hwx : IntKind.i64.wrap ((k : Int) + (n : Int)) = (k : Int) + (n : Int) := by rw [kI]; omega
    go_wp2_with (refine x88 (.tmp 17) (.tmp 21) rfl rfl w.heap.size (.slice A1 l.length cap) l rfl HX.out.2 (wr.heap.size + 1) _ 1 1 [((k : Int), (n : Int))] rfl rfl HX.out.1 (by omega) (by simp; omega) ?_; intro v2 w2 h2 g2 a2)
    have hb2 : Below w.heap.size w w2 := HBW.out.grown g2 (by simp; omega) (fun j hj => (kD HO.out _ hj).1)
    have HB2 := kH hb2
    have HO2 := kH h2
    clear hb2 h2 a2 g2
    go_roundw
    case rel =>
     refine ⟨k + n + 1, l ++ [((k : Int), (n : Int))], by omega, by go_num, HO2.out, by simp; omega, HB2.out, ?_⟩
     have hL := HL.out
     rw [HN.out] at hL
     rw [<- hL]
     simp only [natE, map_cons, append_assoc, singleton_append]
     rw [show k + (n + 1) = k + n + 1 by omega]
    case measure => simp [intS]; omega
  ·clear HF
   go_wp2_with fail
   refine HS.out.mono ?_
   rintro e w' ⟨rfl, rfl⟩
   go_wp2
   go_ret
   have h := HL.out
   rw [drop_of_length_le (by omega)] at h
   simp [hol, natE] at h
   exact ⟨_, rfl, by rw [natE, <- h]; exact HO.out, HB.out⟩
end
end Go.Proofs.YtpogpajjemaagaaGreatDoor
