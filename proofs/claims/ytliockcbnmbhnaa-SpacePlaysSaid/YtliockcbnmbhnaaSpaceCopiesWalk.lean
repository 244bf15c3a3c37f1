/-
  The walk of the law SpaceCopies. Conditions: the numbers and extents read as they are said to.
-/
import Derived.Test.YtliockcbnmbhnaaUg
namespace Go.Proofs.Ytliockcbnmbhnaa
open Go.RowKit Go.BigFrame
set_option linter.unusedSimpArgs false
set_option linter.unusedVariables false
/-- the document's row of flags, out of the space's way -/
structure Doc (w W : World) (g r : Nat) (D : Option Addr) (fl : List Bool) : Prop where
  reads : Reads W W.heap.size 1 D fl.length (flagsS fl)
  far : ∀ ad, D = some ad → ad.block ≠ g ∧ ad.block ≠ r
theorem reads_only2 {W W' : World} {F : List Nat} {B size n : Nat} {A : Option Addr} {xs : List Value} (h : Reads W B size A n xs) (ho : Only F W W') (ha : ∀ ad, A = some ad → ad.block ∉ F) : Reads W' B size A n xs :=
  ⟨h.1, fun hn => by
    obtain ⟨ad, e, hb, hc⟩ := h.2 hn
    exact ⟨ad, e, hb, fun j u hu => (ho.cell (World.block_lt_of_cell? W _ (hc j u hu)) (by rw [block_of_add]; exact ha ad e)).trans (hc j u hu)⟩⟩
theorem reads_none {W W' : World} {B : Nat} {D : Option Addr} (h : Reads W B 1 D ([] : List Bool).length (flagsS [])) : Reads W' B 1 D ([] : List Bool).length (flagsS []) := ⟨rfl, fun h => by simp at h⟩
theorem Doc.only {w W W' : World} {g r : Nat} {D : Option Addr} {fl : List Bool} (h : Doc w W g r D fl) (o : Only [g, r] W W') : Doc w W' g r D fl :=
  ⟨(reads_only2 h.reads o (fun ad hd => by have := h.far ad hd; simp; exact this)).more o.size, h.far⟩
theorem Doc.below {w W W' : World} {g r : Nat} {D : Option Addr} {fl : List Bool} (h : Doc w W g r D fl) (b : Below W.heap.size W W') : Doc w W' g r D fl :=
  ⟨(h.reads.below b).more b.size, h.far⟩
theorem Doc.next {w W W' : World} {g r : Nat} {D D' : Option Addr} {fl fl' : List Bool} (h : Doc w W g r D fl) (d : DRow W W' D D' fl') (hg : g < W.heap.size) (hr : r < W.heap.size) : Doc w W' g r D' fl' := by
  refine ⟨d.reads, fun ad hd => ?_⟩
  rcases d.new with e | e
  · subst e; exact h.far ad hd
  · have := e ad hd; omega
/-- a space and the document's row of it: taken from both -/
def Pair (w W : World) (g r c : Nat) (A D : Option Addr) (fl : List Bool) : Prop := Sps w W g r c A fl ∧ Doc w W g r D fl ∧ fl.length = 50
theorem Pair.rlt {w W : World} {g r c : Nat} {A D : Option Addr} {fl : List Bool} (h : Pair w W g r c A D fl) : g < W.heap.size ∧ r < W.heap.size :=
  ⟨h.1.at_.blk.lt, h.1.at_.rlt (fun e => by have := h.2.2; rw [e] at this; simp at this)⟩
/-- what is taken of a space -/
def took (fl : List Bool) (n : Int) : List Bool → Prop := fun fl' => (n < 0 ∧ fl' = fl) ∨ ((cnt fl : Int) < n ∧ fl' = fl) ∨ ∃ (k : Nat) (out : List (Nat × Nat)), n = k ∧ k ≤ cnt fl ∧ Chosen (hol 0 fl) k out ∧ fl' = setA fl out false
theorem took_one {fl a b : List Bool} {n : Int} (h : took fl n a) (h' : took fl n b) : a = b := by
  rcases h with ⟨h1, rfl⟩ | ⟨h1, rfl⟩ | ⟨k, out, rfl, hk, hc, rfl⟩
  · rcases h' with ⟨h2, rfl⟩ | ⟨h2, rfl⟩ | ⟨k', out', e, hk', hc', rfl⟩
    · rfl
    · omega
    · omega
  · rcases h' with ⟨h2, rfl⟩ | ⟨h2, rfl⟩ | ⟨k', out', e, hk', hc', rfl⟩
    · omega
    · rfl
    · omega
  · rcases h' with ⟨h2, rfl⟩ | ⟨h2, rfl⟩ | ⟨k', out', e, hk', hc', rfl⟩
    · omega
    · omega
    · have e' : k = k' := by omega
      subst e'
      rw [hc.one hc']
theorem took_len {fl a : List Bool} {n : Int} (h : took fl n a) (hl : ∃ (A : Option Addr) (g r c : Nat) (w : World), SAt w g r A c fl (cnt fl)) : a.length = fl.length := by
  rcases h with ⟨h1, rfl⟩ | ⟨h1, rfl⟩ | ⟨k, out, rfl, hk, hc, rfl⟩
  · rfl
  · rfl
  · exact ((hc.ok (hol_sound fl)).1).len
/-- one Take of a space: any answer -/
theorem take_sps {w W : World} {g r c : Nat} {A : Option Addr} {fl : List Bool} (n : Int) (h : Sps w W g r c A fl) :
    Calls Try.prog 15 #[.pointer (some ⟨g, 0, none⟩), .int .i64 n] W fun e w' => ∃ v1 v2 fl', e = .returned (.tuple #[v1, v2]) ∧ Only [g, r] W w' ∧ Sps w w' g r c A fl' ∧ took fl n fl' := by
  refine (stake_any n h.at_ h.ne).mono ?_
  rintro e w' ⟨ho, ⟨h1, rfl, hs⟩ | ⟨h1, rfl, hs⟩ | ⟨k, v, out, rfl, hk, rfl, hv, hc, hs⟩⟩
  · exact ⟨_, _, fl, rfl, ho, h.only ho hs, .inl ⟨h1, rfl⟩⟩
  · exact ⟨_, _, fl, rfl, ho, h.only ho hs, .inr (.inl ⟨h1, rfl⟩)⟩
  · exact ⟨_, _, _, rfl, ho, h.only ho hs, .inr (.inr ⟨k, out, rfl, hk, hc, rfl⟩)⟩
/-- one Take of the document's row -/
theorem take_doc {w W : World} {g r cD : Nat} {D : Option Addr} {fl : List Bool} (n : Int) (h : Doc w W g r D fl) (hl : fl.length ≤ 65536) (hg : g < W.heap.size) (hr : r < W.heap.size) :
    Calls Try.prog 16 #[.slice D fl.length cD, .int .i64 n] W fun e w' => ∃ D' c' v2 v3 fl', e = .returned (.tuple #[.slice D' fl.length c', v2, v3]) ∧ Below W.heap.size W w' ∧ Doc w w' g r D' fl' ∧ took fl n fl' := by
  refine (dtake_any (c := cD) n hl h.reads (Nat.le_refl _)).mono ?_
  rintro e w' ⟨hb, ⟨h1, rfl⟩ | ⟨h1, rfl⟩ | ⟨k, A', c', lv, out, rfl, hk, rfl, hc, hv, hd, ho⟩⟩
  · exact ⟨D, cD, _, _, fl, rfl, hb, h.below hb, .inl ⟨h1, rfl⟩⟩
  · exact ⟨D, cD, _, _, fl, rfl, hb, h.below hb, .inr (.inl ⟨h1, rfl⟩)⟩
  · exact ⟨A', c', _, _, _, rfl, hb, h.next hd hg hr, .inr (.inr ⟨k, out, rfl, hk, hc, rfl⟩)⟩
set_option maxRecDepth 100000 in
set_option maxHeartbeats 8000000 in
theorem spaceCopies_walk {w : World} (A0 : Option Addr) (c0 : Nat) (la : List Int) (m0 : la.length ≤ c0 ∧ c0 ≤ 9223372036854775807) (hRa : Ints w w.heap.size A0 la) (A1 : Option Addr) (c1 : Nat) (lb : List Int) (m1 : lb.length ≤ c1 ∧ c1 ≤ 9223372036854775807) (hRb : Ints w w.heap.size A1 lb)
    (A2 : Option Addr) (c2 : Nat) (l : List (Int × Int)) (hm : l.length ≤ c2 ∧ c2 ≤ 9223372036854775807) (hR : ExtR w w.heap.size A2 l) (hI : ∀ e ∈ l, InI e) :
    Calls Try.prog 6 #[.slice A0 la.length c0, .slice A1 lb.length c1, .slice A2 l.length c2] w fun e w' => e = .returned (.bool true) ∧ Below w.heap.size w w' := by
  have HRA := Lib.hid hRa
  have HRB := Lib.hid hRb
  have HR := Lib.hid hR
  have HI := Lib.hid hI
  clear hR hI hRa hRb
  go_enter Try.func6, Try.ntmps6
  go_wp2_with fail
  refine (alive_any w).mono ?_
  rintro e w1 ⟨rfl, hb1⟩
  have HB1 := Lib.hid hb1
  clear hb1
  by_cases hla : (30 : Int) < (la.length : Int)
  · have hd : decide ((30 : Int) < (la.length : Int)) = true := decide_eq_true hla
    go_wp2
    go_ret
    exact ⟨rfl, HB1.out⟩
  have hda : decide ((30 : Int) < (la.length : Int)) = false := decide_eq_false hla
  by_cases hlb : (30 : Int) < (lb.length : Int)
  · have hd : decide ((30 : Int) < (lb.length : Int)) = true := decide_eq_true hlb
    go_wp2
    go_ret
    exact ⟨rfl, HB1.out⟩
  have hdb : decide ((30 : Int) < (lb.length : Int)) = false := decide_eq_false hlb
  by_cases hlc : (20 : Int) < (l.length : Int)
  · have hd : decide ((20 : Int) < (l.length : Int)) = true := decide_eq_true hlc
    go_wp2
    go_ret
    exact ⟨rfl, HB1.out⟩
  have hdc : decide ((20 : Int) < (l.length : Int)) = false := decide_eq_false hlc
  have HNW := Lib.hid (snew_any 50 (by omega) w1)
  go_wp2_with fail
  refine HNW.out.mono ?_
  rintro e w2 ⟨p, rfl, g, r, A, c, rfl, hs, hne, hg, hr, hb⟩
  have hz1 := HB1.out.size
  have hS2 : Sps w w2 g r c A (List.replicate 50 true) := ⟨hs, hne, HB1.out.trans (hb.mono hz1), by omega, by omega⟩
  have HS2 := Lib.hid hS2
  have HDN := Lib.hid (dnew_any 50 (by omega) w2)
  clear hs hne hg hr hb hS2 HNW
  go_wp2_with fail
  refine HDN.out.mono ?_
  rintro e w3 ⟨v3, rfl, hv3, hb3⟩
  obtain ⟨D, cD, rfl⟩ := hv3.form
  have hS3 := HS2.out.below hb3
  have hD3 : Doc w w3 g r D (List.replicate 50 true) := ⟨hv3.reads.2, fun ad hd => by
    subst hd
    have h1 := (World.ownsRow.lt hv3 ad.block rfl).1
    have h2 := HS2.out.at_.blk.lt
    have h3 := HS2.out.at_.rlt (by simp)
    omega⟩
  have HP := Lib.hid (show Pair w w3 g r c A D (List.replicate 50 true) from ⟨hS3, hD3, by simp⟩)
  have hl50 : (List.replicate 50 true).length = 50 := by simp
  rw [hl50]
  clear hv3 hb3 hS3 hD3 HDN HS2 hl50
  go_wp2_with fail
  go_loopw [9, 46] (fun dv i wr => ∃ (k : Nat) (D : Option Addr) (cD : Nat) (fl : List Bool), k ≤ la.length ∧ i = .int .i64 k ∧ dv = .slice D 50 cD ∧ Pair w wr g r c A D fl) (fun _ i _ => la.length - (intS i).toNat)
  case atStart => exact ⟨0, D, cD, _, by omega, rfl, rfl, HP.out⟩
  case round =>
    obtain ⟨k, D, cD, fl, hk, rfl, rfl, hP⟩ := hrel
    obtain ⟨wo, hwo⟩ : ∃ wo, wo = wr := ⟨_, rfl⟩
    subst hwo
    have HP := Lib.hid hP
    clear hP
    by_cases hlt : k < la.length
    · obtain ⟨ad, x, rfl, hab, he, a0⟩ := (show Ints wo w.heap.size A0 la from HRA.out.below HP.out.1.bel).get hlt
      have HT := Lib.hid (take_sps x HP.out.1)
      have hwk : IntKind.i64.wrap ((k : Int) + 1) = (k : Int) + 1 := by rw [IntKind.wrap_i64]; omega
      clear he
      go_wp2_with fail
      refine HT.out.mono ?_
      rintro e w5 ⟨v1, v2, fl', rfl, ho5, hS5, ht5⟩
      have hD5 : Doc w w5 g r D fl := HP.out.2.1.only ho5
      have hfl := HP.out.2.2
      have HTD := Lib.hid (take_doc (cD := cD) x hD5 (by omega) (by have := HP.out.rlt.1; have := ho5.size; omega) (by have := HP.out.rlt.2; have := ho5.size; omega))
      rw [hfl] at HTD
      have H5 := Lib.hid (And.intro hS5 ht5)
      clear ho5 hS5 ht5 hD5 HT a0
      go_wp2_with fail
      refine HTD.out.mono ?_
      rintro e w6 ⟨D6, c6, v3, v4, fl6, rfl, hb6, hD6, ht6⟩
      obtain rfl := took_one H5.out.2 ht6
      have hP6 : Pair w w6 g r c A D6 fl' := ⟨H5.out.1.below hb6, hD6, by rw [took_len H5.out.2 ⟨_, _, _, _, _, HP.out.1.at_⟩]; exact hfl⟩
      have H6 := Lib.hid hP6
      clear hb6 hD6 ht6 hP6 HTD
      go_wp2
      go_roundw
      case rel => exact ⟨k + 1, D6, c6, fl', by omega, by go_num, rfl, H6.out⟩
      case measure => simp [intS]; omega
    · have HC := Lib.hid (scopy_any HP.out.1.at_)
      go_wp2_with fail
      refine HC.out.mono ?_
      rintro e w5 ⟨p5, rfl, g2, r2, A5, c5, rfl, hs, hne, hg, hr, hb⟩
      have hz0 := HP.out.1.bel.size
      have hS5 : Sps w w5 g2 r2 c5 A5 fl := ⟨hs, hne, HP.out.1.bel.trans (hb.mono hz0), by omega, by omega⟩
      have hP5 : Pair w w5 g r c A D fl := ⟨HP.out.1.below hb, HP.out.2.1.below hb, HP.out.2.2⟩
      have hD5 : Doc w w5 g2 r2 D fl := ⟨hP5.2.1.reads, fun ad hd => by
        have h1 := HP.out.2.1.reads.2 (by have := HP.out.2.2; omega)
        obtain ⟨ad', e', hb', _⟩ := h1
        rw [hd] at e'
        injection e' with e'
        subst e'
        omega⟩
      have hG : g2 ≠ g ∧ g2 ≠ r ∧ r2 ≠ g ∧ r2 ≠ r := by have := HP.out.rlt; omega
      have HQ := Lib.hid (And.intro hP5 (And.intro (show Pair w w5 g2 r2 c5 A5 D fl from ⟨hS5, hD5, HP.out.2.2⟩) hG))
      clear hs hne hg hr hb hS5 hP5 hD5 hG HP HC
      go_wp2_with fail
      go_loopw [13, 69] (fun dv i wr => ∃ (k : Nat) (D2 : Option Addr) (cD2 : Nat) (fl2 : List Bool), k ≤ lb.length ∧ i = .int .i64 k ∧ dv = .slice D2 50 cD2 ∧ Pair w wr g2 r2 c5 A5 D2 fl2 ∧ Pair w wr g r c A D fl) (fun _ i _ => lb.length - (intS i).toNat)
      case atStart => exact ⟨0, D, cD, fl, by omega, rfl, rfl, HQ.out.2.1, HQ.out.1⟩
      case round =>
        obtain ⟨k2, D2, cD2, fl2, hk2, rfl, rfl, hP2, hP1⟩ := hrel
        obtain ⟨wp, hwp⟩ : ∃ wp, wp = wr := ⟨_, rfl⟩
        subst hwp
        have HP2 := Lib.hid hP2
        have HP1 := Lib.hid hP1
        clear hP2 hP1
        by_cases hlt : k2 < lb.length
        · obtain ⟨ad, x, rfl, hab, he, a0⟩ := (show Ints wp w.heap.size A1 lb from HRB.out.below HP2.out.1.bel).get hlt
          have HT := Lib.hid (take_sps x HP2.out.1)
          have hwk : IntKind.i64.wrap ((k2 : Int) + 1) = (k2 : Int) + 1 := by rw [IntKind.wrap_i64]; omega
          clear he
          go_wp2_with fail
          refine HT.out.mono ?_
          rintro e w6 ⟨v1, v2, fl', rfl, ho5, hS5, ht5⟩
          have hD5 : Doc w w6 g2 r2 D2 fl2 := HP2.out.2.1.only ho5
          have hfl := HP2.out.2.2
          have hG := HQ.out.2.2
          have hfar2 : ∀ ad', D = some ad' → ad'.block ≠ g2 ∧ ad'.block ≠ r2 := HQ.out.2.1.2.1.far
          have hP1' : Pair w w6 g r c A D fl := ⟨HP1.out.1.apart ho5 (by intro k hk; simp at hk; have := HP2.out.1.gl; have := HP2.out.1.rl; omega) (by simp; omega) (by simp; omega), ⟨(reads_only2 HP1.out.2.1.reads ho5 (fun ad' hd => by have := hfar2 ad' hd; simp; exact this)).more ho5.size, HP1.out.2.1.far⟩, HP1.out.2.2⟩
          have HTD := Lib.hid (take_doc (cD := cD2) x hD5 (by omega) (by have := HP2.out.rlt.1; have := ho5.size; omega) (by have := HP2.out.rlt.2; have := ho5.size; omega))
          rw [hfl] at HTD
          have H5 := Lib.hid (And.intro hS5 (And.intro ht5 hP1'))
          clear ho5 hS5 ht5 hD5 HT a0 hG hfar2 hP1'
          go_wp2_with fail
          refine HTD.out.mono ?_
          rintro e w7 ⟨D6, c6, v3, v4, fl6, rfl, hb6, hD6, ht6⟩
          obtain rfl := took_one H5.out.2.1 ht6
          have hP6 : Pair w w7 g2 r2 c5 A5 D6 fl' := ⟨H5.out.1.below hb6, hD6, by rw [took_len H5.out.2.1 ⟨_, _, _, _, _, HP2.out.1.at_⟩]; exact hfl⟩
          have hP7 : Pair w w7 g r c A D fl := ⟨H5.out.2.2.1.below hb6, H5.out.2.2.2.1.below hb6, H5.out.2.2.2.2⟩
          have H6 := Lib.hid (And.intro hP6 hP7)
          clear hb6 hD6 ht6 hP6 HTD hP7
          go_wp2
          go_roundw
          case rel => exact ⟨k2 + 1, D6, c6, fl', by omega, by go_num, rfl, H6.out.1, H6.out.2⟩
          case measure => simp [intS]; omega
        · have HQ2 := HQ
          clear HQ2
          have HT1 := Lib.hid (take_nil1 wp)
          go_wp2_with fail
          refine HT1.out.mono ?_
          rintro e w' ⟨rfl, rfl⟩
          have HT0 := Lib.hid (take_nil0 wp)
          clear HT1
          go_wp2_with fail
          refine HT0.out.mono ?_
          rintro e w6 ⟨rfl, hb6⟩
          have HP6 := Lib.hid (show Pair w w6 g2 r2 c5 A5 D2 fl2 from ⟨HP2.out.1.below hb6, HP2.out.2.1.below hb6, HP2.out.2.2⟩)
          have HP7 := Lib.hid (show Pair w w6 g r c A D fl from ⟨HP1.out.1.below hb6, HP1.out.2.1.below hb6, HP1.out.2.2⟩)
          clear hb6 HT0 HP1 HP2
          have HE := Lib.hid (show ∀ wx, Below w.heap.size w wx → ExtR wx w.heap.size A2 l from fun wx hb => HR.out.below hb)
          have HZ := Lib.hid (lstands_any (cD := cD) HP7.out.1 HP7.out.2.1.reads)
          rw [HP7.out.2.2] at HZ
          rcases Nat.eq_zero_or_pos l.length with hl0 | hl0
          · have hl0' : l = [] := List.eq_nil_of_length_eq_zero hl0
            have hif : (if l = [] then 0 else 1) = 0 := if_pos hl0'
            have hd : decide ((0 : Int) < (l.length : Int)) = false := decide_eq_false (by omega)
            have HIF := Lib.hid hif
            have hnp : ¬ (0 < l.length) := by omega
            clear hl0' hif hl0
            go_wp2_with fail
            refine HZ.out.mono ?_
            rintro e w8 ⟨rfl, hb8⟩
            have HB8 := Lib.hid hb8
            have HZ2 := Lib.hid (lstands_any (cD := cD2) (HP6.out.1.below hb8) (HP6.out.2.1.below hb8).reads)
            rw [HP6.out.2.2] at HZ2
            clear hb8 HZ
            go_wp2_with fail
            refine HZ2.out.mono ?_
            rintro e w9 ⟨rfl, hb9⟩
            have hbw9 : Below w.heap.size w w9 := ((HP6.out.1.below HB8.out).bel).trans (hb9.mono (HP6.out.1.below HB8.out).bel.size)
            have HW9 := Lib.hid hbw9
            clear hb9 HZ2 hbw9
            have HIS := Lib.hid (is_any 4 4 w9)
            go_wp2_with fail
            refine HIS.out.mono ?_
            rintro e w' ⟨rfl, rfl⟩
            have HG := Lib.hid (give_nil (w := w9) l HI.out A2 c2 hm.1 (HE.out _ HW9.out) HW9.out.size (by omega))
            rw [show ((4 : Nat) == 4) = true from rfl]
            go_wp2_with fail
            refine HG.out.mono ?_
            rintro e w10 ⟨he10, hb10⟩
            rw [HIF.out] at he10
            subst he10
            have HW10 := Lib.hid (HW9.out.trans (hb10.mono HW9.out.size))
            have HN1 := Lib.hid (num_any 0 w10)
            clear hb10 HG HIS
            go_wp2_with fail
            refine HN1.out.mono ?_
            rintro e w' ⟨rfl, rfl⟩
            have HCL := Lib.hid (claim_nil (w := w10) l HI.out A2 c2 hm.1 (HE.out _ HW10.out) HW10.out.size (by omega))
            clear HN1
            go_wp2_with fail
            refine HCL.out.mono ?_
            rintro e w11 ⟨he11, hb11⟩
            rw [HIF.out] at he11
            subst he11
            have HW11 := Lib.hid (HW10.out.trans (hb11.mono HW10.out.size))
            have HN2 := Lib.hid (num_any 0 w11)
            clear hb11 HCL
            go_wp2_with fail
            refine HN2.out.mono ?_
            rintro e w' ⟨rfl, rfl⟩
            have HF0 := Lib.hid (sfree_nil w11)
            clear HN2
            go_wp2_with fail
            refine HF0.out.mono ?_
            rintro e w' ⟨rfl, rfl⟩
            have HL0 := Lib.hid (slen_nil w11)
            clear HF0
            go_wp2_with fail
            refine HL0.out.mono ?_
            rintro e w' ⟨rfl, rfl⟩
            have HH0 := Lib.hid (holes_nil (w := w11))
            clear HL0
            go_wp2_with fail
            refine HH0.out.mono ?_
            rintro e w12 ⟨v12, rfl, hv12, hb12⟩
            obtain ⟨A12, c12, rfl, -⟩ := hv12.form
            have HW12 := Lib.hid (HW11.out.trans (hb12.mono HW11.out.size))
            have HC0 := Lib.hid (scopy_nil w12)
            clear hb12 hv12 HH0
            go_wp2_with fail
            refine HC0.out.mono ?_
            rintro e w' ⟨rfl, rfl⟩
            go_wp2
            go_ret
            exact ⟨rfl, HW12.out⟩
          · have hl0' : l ≠ [] := fun e => by rw [e] at hl0; simp at hl0
            have hif : (if l = [] then 0 else 1) = 1 := if_neg hl0'
            have hd : decide ((0 : Int) < (l.length : Int)) = true := decide_eq_true (by omega)
            have HIF := Lib.hid hif
            clear hl0' hif
            go_wp2_with fail
            refine HZ.out.mono ?_
            rintro e w8 ⟨rfl, hb8⟩
            have HB8 := Lib.hid hb8
            have HZ2 := Lib.hid (lstands_any (cD := cD2) (HP6.out.1.below hb8) (HP6.out.2.1.below hb8).reads)
            rw [HP6.out.2.2] at HZ2
            clear hb8 HZ
            go_wp2_with fail
            refine HZ2.out.mono ?_
            rintro e w9 ⟨rfl, hb9⟩
            have hbw9 : Below w.heap.size w w9 := ((HP6.out.1.below HB8.out).bel).trans (hb9.mono (HP6.out.1.below HB8.out).bel.size)
            have HW9 := Lib.hid hbw9
            clear hb9 HZ2 hbw9
            have HIS := Lib.hid (is_any 4 4 w9)
            go_wp2_with fail
            refine HIS.out.mono ?_
            rintro e w' ⟨rfl, rfl⟩
            have HG := Lib.hid (give_nil (w := w9) l HI.out A2 c2 hm.1 (HE.out _ HW9.out) HW9.out.size (by omega))
            rw [show ((4 : Nat) == 4) = true from rfl]
            go_wp2_with fail
            refine HG.out.mono ?_
            rintro e w10 ⟨he10, hb10⟩
            rw [HIF.out] at he10
            subst he10
            have HW10 := Lib.hid (HW9.out.trans (hb10.mono HW9.out.size))
            have HN1 := Lib.hid (num_any 1 w10)
            clear hb10 HG HIS
            go_wp2_with fail
            refine HN1.out.mono ?_
            rintro e w' ⟨rfl, rfl⟩
            have HCL := Lib.hid (claim_nil (w := w10) l HI.out A2 c2 hm.1 (HE.out _ HW10.out) HW10.out.size (by omega))
            clear HN1
            go_wp2_with fail
            refine HCL.out.mono ?_
            rintro e w11 ⟨he11, hb11⟩
            rw [HIF.out] at he11
            subst he11
            have HW11 := Lib.hid (HW10.out.trans (hb11.mono HW10.out.size))
            have HN2 := Lib.hid (num_any 1 w11)
            clear hb11 HCL
            go_wp2_with fail
            refine HN2.out.mono ?_
            rintro e w' ⟨rfl, rfl⟩
            have HF0 := Lib.hid (sfree_nil w11)
            clear HN2
            go_wp2_with fail
            refine HF0.out.mono ?_
            rintro e w' ⟨rfl, rfl⟩
            have HL0 := Lib.hid (slen_nil w11)
            clear HF0
            go_wp2_with fail
            refine HL0.out.mono ?_
            rintro e w' ⟨rfl, rfl⟩
            have HH0 := Lib.hid (holes_nil (w := w11))
            clear HL0
            go_wp2_with fail
            refine HH0.out.mono ?_
            rintro e w12 ⟨v12, rfl, hv12, hb12⟩
            obtain ⟨A12, c12, rfl, -⟩ := hv12.form
            have HW12 := Lib.hid (HW11.out.trans (hb12.mono HW11.out.size))
            have HC0 := Lib.hid (scopy_nil w12)
            clear hb12 hv12 HH0
            go_wp2_with fail
            refine HC0.out.mono ?_
            rintro e w' ⟨rfl, rfl⟩
            go_wp2
            go_ret
            exact ⟨rfl, HW12.out⟩
end Go.Proofs.Ytliockcbnmbhnaa
