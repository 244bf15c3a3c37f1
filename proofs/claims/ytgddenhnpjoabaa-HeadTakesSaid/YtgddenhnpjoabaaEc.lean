/-
  What Take of marks returns. Conditions: the bytes are no more than ten thousand.
-/
import Derived.Test.YtgddenhnpjoabaaEb
import Derived.Deep.RegionWith
import Derived.Deep.CutRange
import Derived.Lib.ConvBytes
import Derived.WideKeyElems
import Derived.Laws.IdiomMaps
import Derived.Maps.Keyed
import Derived.Maps.Own
import Derived.StringKeys

namespace Go.Proofs.Ytgddenhnpjoabaa
open Go.RowKit
set_option linter.unusedSimpArgs false
set_option maxRecDepth 100000
set_option linter.unusedVariables false
theorem equal_any (A A' : Option Addr) (n n' c c' B B' : Nat) (bs bs' : List Nat) (w : World) (h : Bytes w B A n bs) (h' : Bytes w B' A' n' bs') :
    Calls Try.prog 52 #[.slice A n c, .slice A' n' c'] w fun e w' => e = .returned (.bool (bs == bs')) ∧ w = w' := by
  have k1 := str_of (P := Try.prog) h c 23 9 5 Try.underlying23 Try.underlying5 Try.underlying9
  have k2 := str_of (P := Try.prog) h' c' 23 9 5 Try.underlying23 Try.underlying5 Try.underlying9
  have he : ((strOf bs).toList == (strOf bs').toList) = (bs == bs') := by
    rw [Bool.eq_iff_iff, beq_iff_eq, beq_iff_eq, ByteArray.toList_eq, ByteArray.toList_eq]
    exact ⟨fun e => strOf_inj h.2 h'.2 (Go.WideShapes.bytes_inj e), fun e => by rw [e]⟩
  have HE := Lib.hid he
  generalize strOf bs = s1 at *
  generalize strOf bs' = s2 at *
  clear h h' he
  go_enter Try.func52, Try.ntmps52
  go_wp2
  go_ret
  exact ⟨by simp [HE.out], rfl⟩
theorem below_drew1 {B : Nat} {w w' : World} (h : Below B w w') : Below B w w'.drew := ⟨h.os, h.tape, h.output, h.size, h.block⟩
/-- the first k taken -/
def takeRow (b : List Nat) (k n : Nat) : List Nat := takeM b k ++ List.replicate (n - k) 0
theorem takeRow_zero (b : List Nat) (n : Nat) : takeRow b 0 n = List.replicate n 0 := by simp [takeRow, takeM]
theorem takeRow_all (b : List Nat) (n : Nat) : takeRow b n n = takeM b n := by simp [takeRow]
theorem takeRow_at (b : List Nat) {k n : Nat} (h : k < n) : (takeRow b k n)[k]? = some 0 := by
  unfold takeRow
  rw [List.getElem?_append_right (by rw [takeM_len]; omega), takeM_len, List.getElem?_replicate, if_pos (by omega)]
theorem takeRow_set (b : List Nat) {k n : Nat} (h : k < n) : (takeRow b k n).set k (unp b k) = takeRow b (k + 1) n := by
  unfold takeRow
  rw [List.set_append_right _ _ (by rw [takeM_len]; omega), takeM_len, Nat.sub_self, show n - k = (n - (k + 1)) + 1 by omega, List.replicate_succ, List.set_cons_zero, takeM_snoc, List.append_assoc]
  rfl
theorem unp_eq (b : List Nat) (k x : Nat) (h : b[2 + k / 4]? = some x) : x / 2 ^ (2 * (k % 4)) &&& 3 = unp b k := by
  unfold unp
  rw [mk_at h, show (3 : Nat) = 2 ^ 2 - 1 from rfl, Nat.and_two_pow_sub_one_eq_mod, Nat.pow_mul]
theorem count_or (x y : Nat) (hx : x < 256) (hy : y < 256) : bits .or .i64 (x : Int) ((y : Int) * 256) = ((x + 256 * y : Nat) : Int) := by
  rw [(or_step 8 x y 256 (x : Int) ((y : Int) * 256) rfl hx hy (by omega) (by omega) (byte_mod1 y hy)).2, show x + y * 256 = x + 256 * y by omega]
  unfold wrap64
  omega
/-- what Take comes to -/
def TakeTo (w : World) (bs : List Nat) (e : Ending) (w' : World) : Prop :=
  Below w.heap.size w w' ∧ ((TakeOk bs ∧ ∃ v, e = .returned (.tuple #[v, .nilIface]) ∧ Own w' w.heap.size v (countOf bs) (takeM bs (countOf bs))) ∨
    (¬ TakeOk bs ∧ e = .returned (.tuple #[.slice none 0 0, errV 2])))
set_option maxHeartbeats 2000000 in
theorem ktake_any (A : Option Addr) (n c : Nat) (bs : List Nat) (w : World) (hn : n ≤ 1000000) (hb : Bytes w w.heap.size A n bs) :
    Calls Try.prog 147 #[.slice A n c] w fun e w' => TakeTo w bs e w' := by
  have hl := hb.len
  by_cases h2 : n < 2
  · have hd : decide ((n : Int) < 2) = true := decide_eq_true (by omega)
    have HN : Hid (¬ TakeOk bs) := Lib.hid (fun h => by have := h.1; omega)
    go_enter Try.func147, Try.ntmps147
    go_wp2
    go_ret2
    exact ⟨Below.refl _ _, .inr ⟨HN.out, rfl⟩⟩
  have hd : decide ((n : Int) < 2) = false := decide_eq_false (by omega)
  obtain ⟨ad, x, rfl, hx, hx2, hcx⟩ := hb.at_ (k := 0) (by omega)
  obtain ⟨ad', y, he, hy, hy2, hcy⟩ := hb.at_ (k := 1) (by omega)
  injection he with he
  subst he
  have hcx0 : w.cell? ad = some (.int .u8 (x : Int)) := by
    have e : ad.add 0 = ad := by simp [Addr.add]
    rwa [e] at hcx
  have hcy1 := hcy
  simp [Addr.add] at hcy1
  have hn1 : 1 < n := by omega
  have hn0 : 0 < n := by omega
  have hor := count_or x y hx2 hy2
  have hw0 : IntKind.i64.wrap (x : Int) = (x : Int) := by rw [IntKind.wrap_i64]; omega
  have hw1 : IntKind.i64.wrap (y : Int) = (y : Int) := by rw [IntKind.wrap_i64]; omega
  have hw2 : IntKind.i64.wrap ((y : Int) * 256) = (y : Int) * 256 := by rw [IntKind.wrap_i64]; omega
  have hcnt : countOf bs = x + 256 * y := by unfold countOf; rw [mk_at hx, mk_at hy]
  have HC := Lib.hid hcnt
  have HB := Lib.hid hb
  clear hb hx hy hcnt
  obtain ⟨q, hq⟩ : ∃ q, q = x + 256 * y := ⟨_, rfl⟩
  rw [← hq] at hor HC
  have HQ := Lib.hid hq
  clear hq
  by_cases h256 : q ≤ 256
  · have HNew := Lib.hid (fun w => new_ok q h256 w)
    go_enter Try.func147, Try.ntmps147
    go_wp2
    refine Code.wp_mono (Q := fun e a' W' => match e with | .normal => a' = { tmps := #[.slice (some ad) n c, undef, .slice none 0 0, .nilIface, .slice (some ⟨w.heap.size, 0, none⟩) q q, .nilIface, undef, undef, undef, undef, .slice (some ad) n c, .int .i64 (n : Int), .bool false, undef, .tuple #[.slice (some ⟨w.heap.size, 0, none⟩) q q, .nilIface], .slice (some ad) n c, .pointer (some ad), .int .u8 (x : Int), .int .i64 (x : Int), .slice (some ad) n c, .pointer (some { block := ad.block, off := ad.off + 1 }), .int .u8 (y : Int), .int .i64 (y : Int), .int .i64 ((y : Int) * 256), .int .i64 (q : Int), .tuple #[.slice (some ⟨w.heap.size, 0, none⟩) q q, .nilIface], .slice (some ⟨w.heap.size, 0, none⟩) q q, .nilIface, undef, undef, undef, undef, undef, undef, undef, undef, undef, undef, undef, undef, undef, undef, undef, undef, undef, undef, undef, undef, undef, undef, undef, undef, undef, undef, undef, undef, undef, undef, undef, undef, undef, undef, undef, undef, undef, undef, undef, undef, undef, undef, undef, undef, undef, undef, undef], defers := [] } ∧ W' = (w.alloc (.cells (u8s (List.replicate q 0)).toArray 5)).drew | _ => False) ?_ ?_
    rotate_left
    · go_region_with (go_at_call 165; refine (HNew.out w.drew).mono ?_; rintro e w2 ⟨he, hw⟩; subst he; subst hw)
      all_goals exact ⟨rfl, rfl⟩
    · intro e a' W' hq
      cases e <;> first | exact hq.elim | skip
      obtain ⟨rfl, rfl⟩ := hq
      have K2 : Blk (w.alloc (.cells (u8s (List.replicate q 0)).toArray 5)).drew w.heap.size 5 (u8s (List.replicate q 0)).toArray := (Blk.new w 5 (u8s (List.replicate q 0)).toArray).drew
      have B2 : Below w.heap.size w (w.alloc (.cells (u8s (List.replicate q 0)).toArray 5)).drew := below_drew1 (below_alloc w _)
      have HK := Lib.hid (And.intro K2 B2)
      clear K2 B2 HNew hor hw0 hw1 hw2 hcx hcx0 hcy hcy1
      generalize (w.alloc (.cells (u8s (List.replicate q 0)).toArray 5)).drew = w2 at *
      have HZ := Lib.hid (size_any q w2 (by omega))
      obtain ⟨P, hP⟩ : ∃ P, P = 2 + (q + 3) / 4 := ⟨_, rfl⟩
      rw [← hP] at HZ
      have HP := Lib.hid hP
      clear hP
      by_cases hlen : n = P
      · have hne : ((n : Int) != (P : Int)) = false := by simp [hlen]
        have HLEN := Lib.hid hlen
        clear hlen
        generalize hg : w.heap.size = g at *
        go_wp2_with fail
        refine HZ.out.mono ?_
        rintro e w3 ⟨he, hw⟩
        subst he
        subst hw
        clear HZ
        go_wp2
        go_loopw [41] (fun i wr => ∃ k : Nat, k ≤ q ∧ i = .int .i64 k ∧ Blk wr g 5 (u8s (takeRow bs k q)).toArray ∧ Below g w wr) (fun i _ => q - (intOf i).toNat)
        case atStart => exact ⟨0, by omega, rfl, by rw [takeRow_zero]; exact HK.out.1, HK.out.2⟩
        case round =>
          obtain ⟨k, hk, rfl, hkb, hbl⟩ := hrel
          clear HK
          by_cases hlt : k < q
          · have hat0 : 2 + k / 4 < n := by have := HP.out; have := HLEN.out; omega
            obtain ⟨adx, z, he, hz, hz2, hcz⟩ := (HB.out.below hbl).at_ hat0
            injection he with he
            subst he
            have hpl := place_any k wr (by omega)
            have hcell := hkb.cell8 (takeRow_at bs hlt)
            have hfz := hkb.frozen k
            have hun := unp_eq bs k z hz
            obtain ⟨at_, hat⟩ : ∃ at_, at_ = 2 + k / 4 := ⟨_, rfl⟩
            obtain ⟨sh, hsh⟩ : ∃ sh, sh = 2 * (k % 4) := ⟨_, rfl⟩
            rw [← hat] at hcz hpl hat0
            rw [← hsh] at hpl hun
            have e1 : ((z : Int) / 2 ^ sh) = ((z / 2 ^ sh : Nat) : Int) := by push_cast; rfl
            have hle : z / 2 ^ sh < 256 := Nat.lt_of_le_of_lt (Nat.div_le_self _ _) hz2
            have e2 : bits .and .u8 ((z / 2 ^ sh : Nat) : Int) 3 = ((unp bs k : Nat) : Int) := by
              rw [← hun]
              exact u8_and_nat (z / 2 ^ sh) 3 hle (by omega)
            have hsh2 : sh ≤ 6 := by omega
            have HPL := Lib.hid hpl
            have HS := Lib.hid (takeRow_set bs hlt)
            have HE := Lib.hid (fun v : Nat => And.intro (hkb.set8 k v) (hbl.setCell (p := ⟨g, k, none⟩) (Nat.le_refl _) (.int .u8 (v : Int))))
            generalize unp bs k = un at *
            generalize z / 2 ^ sh = zs at *
            clear hkb hbl hun hpl hz hat hsh hle
            go_wp2_with fail
            refine HPL.out.mono ?_
            rintro e w3 ⟨he, hw⟩
            subst he
            subst hw
            clear HPL
            go_wp2
            go_roundw
            case rel => exact ⟨k + 1, by omega, by go_num, by rw [← HS.out]; exact (HE.out un).1, (HE.out un).2⟩
            case measure => simp [intOf]; omega
          · obtain rfl : k = q := by omega
            have HE := Lib.hid (And.intro hkb hbl)
            clear hkb hbl
            rw [takeRow_all] at HE
            have hgood : Good (takeM bs k) := ⟨by rw [takeM_len]; omega, takeM_le bs k⟩
            have hbw : Bytes wr wr.heap.size (some ⟨g, 0, none⟩) k (takeM bs k) := HE.out.1.bytes (takeM_len bs k) (fun b hb => by have := takeM_le bs k b hb; omega)
            have HPut := Lib.hid (put_ok (some ⟨g, 0, none⟩) k k (takeM bs k) wr hbw hgood)
            have hpl2 : (putM (takeM bs k)).length = 2 + (k + 3) / 4 := by rw [putM_len, takeM_len]
            have hpb := putM_lt hgood
            have HPB := Lib.hid (And.intro hpl2 hpb)
            have HG := Lib.hid hgood
            clear hbw hgood hpl2 hpb
            go_wp2_with fail
            refine HPut.out.mono ?_
            rintro e w3 ⟨he, k3, b3⟩
            subst he
            have hmo := HE.out.2.size
            have hbb : Bytes w3 g (some ad) n bs := (HB.out.below HE.out.2).below (b3.mono (by omega))
            have HEq := Lib.hid (equal_any (some ⟨wr.heap.size, 0, none⟩) (some ad) _ n (2 + (k + 3) / 4) c _ _ _ bs w3 (k3.bytes HPB.out.1 HPB.out.2) hbb)
            have HB3 := Lib.hid (HE.out.2.trans (b3.mono (by omega)))
            have HKm : Hid (Blk w3 g 5 (u8s (takeM bs k)).toArray) := Lib.hid (HE.out.1.below b3 HE.out.1.lt)
            clear hbb k3 b3 HPut
            go_wp2_with fail
            refine HEq.out.mono ?_
            rintro e w4 ⟨he, hw⟩
            subst he
            subst hw
            by_cases heq : putM (takeM bs k) = bs
            · have hb1 : (putM (takeM bs k) == bs) = true := by simpa using heq
              have HN : Hid (TakeOk bs) := Lib.hid ⟨by omega, by rw [HC.out]; exact h256, by rw [HC.out, ← HP.out, ← HLEN.out]; exact hl, by rw [HC.out]; exact heq⟩
              rw [hb1]
              clear hb1 heq
              go_wp2
              go_ret2
              subst hg
              exact ⟨HB3.out, .inl ⟨HN.out, _, rfl, by rw [HC.out]; exact Own.of_blk HKm.out (takeM_len _ _) (Nat.le_refl _) (by omega)⟩⟩
            · have hb1 : (putM (takeM bs k) == bs) = false := by simpa using heq
              have HN : Hid (¬ TakeOk bs) := Lib.hid (fun h => heq (by have := h.2.2.2; rwa [HC.out] at this))
              rw [hb1]
              clear hb1 heq
              go_wp2
              go_ret2
              subst hg
              exact ⟨HB3.out, .inr ⟨HN.out, rfl⟩⟩
      · have HN : Hid (¬ TakeOk bs) := Lib.hid (fun h => by have := h.2.2.1; rw [HC.out, ← HP.out] at this; omega)
        have hne : ((n : Int) != (P : Int)) = true := by simp; omega
        go_wp2_with fail
        refine HZ.out.mono ?_
        rintro e w3 ⟨he, hw⟩
        subst he
        subst hw
        go_wp2
        go_ret2
        exact ⟨HK.out.2, .inr ⟨HN.out, rfl⟩⟩
  · have HNew := Lib.hid (fun w => new_bad (q : Int) (by omega) w)
    have HN : Hid (¬ TakeOk bs) := Lib.hid (fun h => by have := h.2.1; rw [HC.out] at this; omega)
    go_enter Try.func147, Try.ntmps147
    go_wp2
    go_region_with (go_at_call 165; refine (HNew.out w.drew).mono ?_; rintro e w2 ⟨he, hw⟩; subst he; subst hw)
    all_goals
      simp only [errV]
      go_wp2
      go_ret2
      exact ⟨below_drew' (Below.refl _ _), .inr ⟨HN.out, rfl⟩⟩
end Go.Proofs.Ytgddenhnpjoabaa

/-
  The document's Good, Mark, Sized, Frozen, Changed and Scan. Conditions: the rows read as bytes and flags, of no more than ten thousand.
-/
namespace Go.Proofs.Ytgddenhnpjoabaa
open Go.RowKit
set_option linter.unusedSimpArgs false
set_option maxRecDepth 100000
set_option linter.unusedVariables false
theorem dgood_any (A : Option Addr) (n c B : Nat) (bs : List Nat) (w : World) (hn : n ≤ 1000000) (h : Bytes w B A n bs) :
    Calls Try.prog 92 #[.slice A n c] w fun e w' => e = .returned (.bool (decide (Good bs))) ∧ w = w' := by
  have hl := h.len
  have H := Lib.hid h
  clear h
  by_cases h1 : n ≤ 256
  · have hd : decide ((256 : Int) < (n : Int)) = false := decide_eq_false (by omega)
    go_enter Try.func92, Try.ntmps92
    go_wp2
    go_loopw [3] (fun i wr => ∃ k : Nat, k ≤ n ∧ i = .int .i64 k ∧ wr = w ∧ ∀ j b, j < k → bs[j]? = some b → b ≤ 3) (fun i _ => n - (intOf i).toNat)
    case atStart => exact ⟨0, by omega, rfl, by trivial, fun j b h => by omega⟩
    case round =>
      obtain ⟨k, hk, rfl, rfl, hall⟩ := hrel
      have HA := Lib.hid hall
      clear hall
      by_cases hlt : k < n
      · obtain ⟨ad, b, rfl, hb, hb2, hc⟩ := H.out.at_ hlt
        have HB := Lib.hid hb
        clear hb
        by_cases hok : b ≤ 3
        · have hd2 : decide ((3 : Int) < (b : Int)) = false := decide_eq_false (by omega)
          go_wp2
          go_roundw
          case rel => exact ⟨k + 1, by omega, by go_num, by trivial, fun j b' hj hb' => by
            rcases Nat.lt_succ_iff_lt_or_eq.1 hj with h | rfl
            · exact HA.out j b' h hb'
            · rw [HB.out] at hb'; injection hb' with hb'; subst hb'; exact hok⟩
          case measure => simp [intOf]; omega
        · have hd2 : decide ((3 : Int) < (b : Int)) = true := decide_eq_true (by omega)
          have HG : Hid (decide (Good bs) = false) := Lib.hid (decide_eq_false (fun hg => hok (hg.2 b (List.mem_of_getElem? HB.out))))
          go_wp2
          go_ret
          exact ⟨by rw [HG.out]; rfl, rfl⟩
      · obtain rfl : k = n := by omega
        have HG : Hid (decide (Good bs) = true) := Lib.hid (decide_eq_true ⟨by omega, fun x hx => by
          obtain ⟨j, hj, rfl⟩ := List.mem_iff_getElem.1 hx
          exact HA.out j _ (by omega) (List.getElem?_eq_getElem hj)⟩)
        go_wp2
        go_ret
        exact ⟨by rw [HG.out]; rfl, rfl⟩
  · have hd : decide ((256 : Int) < (n : Int)) = true := decide_eq_true (by omega)
    have HG : Hid (decide (Good bs) = false) := Lib.hid (decide_eq_false (fun hg => by have := hg.1; omega))
    go_enter Try.func92, Try.ntmps92
    go_wp2
    go_ret
    exact ⟨by rw [HG.out]; rfl, rfl⟩
/-- bytes of the call's own, and what was there stands -/
def OwnB (w w' : World) (v : Value) (bs : List Nat) : Prop := Own w' w.heap.size v bs.length bs ∧ Below w.heap.size w w'
theorem OwnB.one {w w1 w2 : World} {v v2 : Value} {bs : List Nat} {b : Nat} {t : TypeId} {f : Nat × Nat} {cs : Array Value} (h : OwnB w w1 v bs) (h5 : Own w2 w.heap.size v2 (bs.length + 1) (bs ++ [b])) (hg : (w1.alloc (.cells cs t f)).grownBy w2 v.ownBlock) : OwnB w w2 v2 (bs ++ [b]) := by
  have hb := h.2.alloc h.2.size (.cells cs t f)
  refine ⟨by rw [List.length_append]; exact h5, hb.grown hg hb.size (fun b hb' => by have := (World.ownsRow.lt h.1 b hb').1; omega)⟩
end Go.Proofs.Ytgddenhnpjoabaa

/-
  The document's Changed and Put. Conditions: the rows read as bytes, of no more than ten thousand; what is put are marks.
-/
namespace Go.Proofs.Ytgddenhnpjoabaa
open Go.RowKit
set_option linter.unusedSimpArgs false
set_option maxRecDepth 100000
set_option linter.unusedVariables false
theorem four_step (m : List Nat) (j : Nat) : packB m j = mk m (4 * j) + 4 * (mk m (4 * j + 1) + 4 * (mk m (4 * j + 2) + 4 * mk m (4 * j + 3))) := by
  unfold packB; omega
/-- the number behind i rounds of the inner loop -/
def horner (m : List Nat) (j : Nat) : Nat → Nat
  | 0 => 0
  | 1 => mk m (4 * j + 3)
  | 2 => mk m (4 * j + 2) + 4 * mk m (4 * j + 3)
  | 3 => mk m (4 * j + 1) + 4 * (mk m (4 * j + 2) + 4 * mk m (4 * j + 3))
  | _ => packB m j
theorem horner_step (m : List Nat) (j i : Nat) (hi : i < 4) : horner m j (i + 1) = 4 * horner m j i + mk m (4 * j + (3 - i)) := by
  match i, hi with
  | 0, _ => simp [horner]
  | 1, _ => simp [horner]; omega
  | 2, _ => simp [horner]; omega
  | 3, _ => simp [horner, packB]; omega
theorem horner_lt {m : List Nat} (h : ∀ x ∈ m, x ≤ 3) (j i : Nat) (hi : i ≤ 4) : horner m j i < 256 := by
  have h0 := mk_le h (4 * j)
  have h1 := mk_le h (4 * j + 1)
  have h2 := mk_le h (4 * j + 2)
  have h3 := mk_le h (4 * j + 3)
  match i, hi with
  | 0, _ => simp [horner]
  | 1, _ => simp [horner]; omega
  | 2, _ => simp [horner]; omega
  | 3, _ => simp [horner]; omega
  | 4, _ => simp [horner, packB]; omega
set_option maxHeartbeats 800000 in
theorem dput_any (A : Option Addr) (n c : Nat) (bs : List Nat) (w : World) (h : Bytes w w.heap.size A n bs) (hg : Good bs) :
    Calls Try.prog 102 #[.slice A n c] w fun e w' => ∃ v, e = .returned v ∧ OwnB w w' v (putM bs) := by
  have hl := h.len
  have hn : n ≤ 256 := by have := hg.1; omega
  have H := Lib.hid h
  have HG := Lib.hid hg
  clear h hg
  go_enter Try.func102, Try.ntmps102
  go_wp2
  have HK : Hid (OwnB w (w.alloc (.cells #[.int .u8 ((n : Int) % 256), .int .u8 ((n : Int) / 256)] 5)) (.slice (some ⟨w.heap.size, 0, none⟩) 2 2) ([n % 256, n / 256] ++ packs bs 0)) := Lib.hid ⟨Own.of_blk (bs := [n % 256, n / 256] ++ packs bs 0) (by
      have := Blk.new w 5 (u8s [n % 256, n / 256]).toArray
      simpa [u8s, u8, packs] using this) rfl (Nat.le_refl _) (by omega), below_alloc _ _⟩
  generalize w.alloc (.cells #[.int .u8 ((n : Int) % 256), .int .u8 ((n : Int) / 256)] 5) = w1 at *
  go_loopw [3, 4] (fun v i wr => ∃ j k : Nat, k = 4 * j ∧ k ≤ n + 3 ∧ i = .int .i64 k ∧ OwnB w wr v ([n % 256, n / 256] ++ packs bs j)) (fun _ i _ => n + 3 - (intOf i).toNat)
  case atStart => exact ⟨0, 0, rfl, by omega, rfl, HK.out⟩
  case round =>
    obtain ⟨j, k, hkj, hkn, rfl, ho⟩ := hrel
    have HO := Lib.hid ho
    have HKJ := Lib.hid hkj
    clear ho HK hkj
    by_cases hlt : k < n
    · rename World => wo
      go_wp2
      go_loopw [5, 6] (fun nv kv wr => ∃ (r : Nat) (t : Int), r ≤ 4 ∧ t = 3 - (r : Int) ∧ nv = .int .i64 (horner bs j r : Nat) ∧ kv = .int .i64 t ∧ wr = wo) (fun _ kv _ => (intOf kv + 1).toNat)
      case atStart => exact ⟨0, 3, by omega, by omega, rfl, rfl, by trivial⟩
      case round =>
        obtain ⟨r, t, hr4, ht, rfl, rfl, rfl⟩ := hrel
        have hh := horner_lt HG.out.2 j r hr4
        by_cases hr : r < 4
        · have hst := horner_step bs j r hr
          obtain ⟨q, hq⟩ : ∃ q, q = 4 * j + (3 - r) := ⟨_, rfl⟩
          obtain ⟨tn, htn⟩ : ∃ tn : Nat, tn = 3 - r := ⟨_, rfl⟩
          have htt : t = (tn : Int) := by omega
          rw [← hq] at hst
          have HT := Lib.hid (And.intro ht (And.intro hq htn))
          have hh2 := horner_lt HG.out.2 j (r + 1) (by omega)
          have HS := Lib.hid hst
          have htn3 : tn ≤ 3 := by omega
          have hsum : (k : Int) + (tn : Int) = (q : Int) := by have := HKJ.out; omega
          have hq2 : q ≤ 1000 := by have := HKJ.out; omega
          subst htt
          clear ht hq htn hst hh2
          by_cases hqn : q < n
          · have hd : decide ((q : Int) < (n : Int)) = true := decide_eq_true (by omega)
            obtain ⟨ad, b, rfl, hb, hb2, hc⟩ := (H.out.below HO.out.2).at_ hqn
            have HM := Lib.hid (mk_at hb)
            clear hb
            generalize hz : horner bs j r = z at *
            have HZ := Lib.hid hz
            clear hz
            go_wp2
            refine ⟨⟨r + 1, (tn : Int) - 1, by omega, by have := HT.out.1; push_cast; omega, ?_, rfl, by trivial⟩, by simp only [intOf]; omega⟩
            rw [HS.out, HM.out]
            push_cast
            rfl
          · have hd : decide ((q : Int) < (n : Int)) = false := decide_eq_false (by omega)
            have HM : Hid (mk bs q = 0) := Lib.hid (mk_over (by omega))
            generalize hz : horner bs j r = z at *
            have HZ := Lib.hid hz
            clear hz
            go_wp2
            refine ⟨⟨r + 1, (tn : Int) - 1, by omega, by have := HT.out.1; push_cast; omega, ?_, rfl, by trivial⟩, by simp only [intOf]; omega⟩
            rw [HS.out, HM.out]
            push_cast
            rw [Int.add_zero]
        · obtain rfl : r = 4 := by omega
          have ht1 : t = -1 := by omega
          subst ht1
          have hz4 : horner bs j 4 = packB bs j := rfl
          rw [hz4] at hh ⊢
          have HS : Hid ([n % 256, n / 256] ++ packs bs (j + 1) = ([n % 256, n / 256] ++ packs bs j) ++ [packB bs j]) := Lib.hid (by rw [packs_snoc, List.append_assoc])
          clear hz4 ht
          generalize packB bs j = z at *
          have hln : ([n % 256, n / 256] ++ packs bs j).length = 2 + j := by rw [List.length_append, packs_len]; rfl
          generalize [n % 256, n / 256] ++ packs bs j = row at *
          have hj3 : j ≤ 1000 := by have := HKJ.out; omega
          have hsz := HO.out.2.size
          have HW := Lib.hid (fun (z : Int) t f => World.ownsRow.alloc HO.out.1 (.cells #[.int .u8 z] t f))
          go_wp2_with (refine app_bytes (.tmp 43) (.tmp 46) rfl rfl w.heap.size _ _ _ rfl (HW.out _ _ _) _ _ 1 1 [z] rfl (Bytes.new wr [z] _ _ (by intro x hx; simp at hx; subst hx; exact hh)) (by rw [hln]; omega) (by simp; omega) ?_
                       intro v5 w5 h5 g5 a5
                       have HV := Lib.hid (HO.out.one h5 g5)
                       clear h5 g5)
          exact ⟨⟨j + 1, k + 4, by have := HKJ.out; omega, by omega, by go_num, by rw [HS.out]; exact HV.out⟩, by simp only [intOf]; omega⟩
    · obtain rfl : j = (n + 3) / 4 := by have := HKJ.out; omega
      have HR : Hid ([n % 256, n / 256] ++ packs bs ((n + 3) / 4) = putM bs) := Lib.hid (by unfold putM; rw [hl])
      go_wp2
      go_ret
      exact ⟨_, rfl, by rw [← HR.out]; exact HO.out⟩
end Go.Proofs.Ytgddenhnpjoabaa

/-
  The document's Take. Conditions: the bytes are no more than two thousand.
-/
namespace Go.Proofs.Ytgddenhnpjoabaa
open Go.RowKit
set_option linter.unusedSimpArgs false
set_option maxRecDepth 100000
set_option linter.unusedVariables false
/-- what the document's Take comes to -/
def DTakeTo (w : World) (bs : List Nat) (e : Ending) (w' : World) : Prop :=
  Below w.heap.size w w' ∧ ((TakeOk bs ∧ ∃ v, e = .returned (.tuple #[v, .bool true]) ∧ Own w' w.heap.size v (countOf bs) (takeM bs (countOf bs))) ∨
    (¬ TakeOk bs ∧ e = .returned (.tuple #[.slice none 0 0, .bool false])))
/-- x parted by four, r times -/
theorem div_four (x r : Nat) : x / 4 ^ r / 4 = x / 4 ^ (r + 1) := by rw [Nat.div_div_eq_div_mul, Nat.pow_succ]
theorem unp_at {b : List Nat} {k x : Nat} (h : b[2 + k / 4]? = some x) : unp b k = x / 4 ^ (k % 4) % 4 := by unfold unp; rw [mk_at h]
set_option maxHeartbeats 2000000 in
theorem dtake_any (A : Option Addr) (n c : Nat) (bs : List Nat) (w : World) (hn : n ≤ 25000) (hb : Bytes w w.heap.size A n bs) :
    Calls Try.prog 105 #[.slice A n c] w fun e w' => DTakeTo w bs e w' := by
  have hl := hb.len
  by_cases h2 : n < 2
  · have hd : decide ((n : Int) < 2) = true := decide_eq_true (by omega)
    have HN : Hid (¬ TakeOk bs) := Lib.hid (fun h => by have := h.1; omega)
    go_enter Try.func105, Try.ntmps105
    go_wp2
    go_ret2
    exact ⟨Below.refl _ _, .inr ⟨HN.out, rfl⟩⟩
  have hd : decide ((n : Int) < 2) = false := decide_eq_false (by omega)
  obtain ⟨ad, x, rfl, hx, hx2, hcx⟩ := hb.at_ (k := 0) (by omega)
  obtain ⟨ad', y, he, hy, hy2, hcy⟩ := hb.at_ (k := 1) (by omega)
  injection he with he
  subst he
  have hcx0 : w.cell? ad = some (.int .u8 (x : Int)) := by
    have e : ad.add 0 = ad := by simp [Addr.add]
    rwa [e] at hcx
  have hcy1 := hcy
  simp [Addr.add] at hcy1
  have hn1 : 1 < n := by omega
  have hn0 : 0 < n := by omega
  have hcnt : countOf bs = x + 256 * y := by unfold countOf; rw [mk_at hx, mk_at hy]
  have HC := Lib.hid hcnt
  have HB := Lib.hid hb
  clear hb hx hy hcnt
  obtain ⟨q, hq⟩ : ∃ q, q = x + 256 * y := ⟨_, rfl⟩
  have hsum : (x : Int) + 256 * (y : Int) = (q : Int) := by omega
  have hw0 : IntKind.i64.wrap (x : Int) = (x : Int) := by rw [IntKind.wrap_i64]; omega
  have hw1 : IntKind.i64.wrap (y : Int) = (y : Int) := by rw [IntKind.wrap_i64]; omega
  have hw2 : IntKind.i64.wrap (256 * (y : Int)) = 256 * (y : Int) := by rw [IntKind.wrap_i64]; omega
  have hq9 : q ≤ 65535 := by omega
  rw [← hq] at HC
  clear hq
  go_enter Try.func105, Try.ntmps105
  go_wp2
  go_quiet (fail)
  go_wp2
  have hb1 : Below w.heap.size w (w.drewN nq) := below_drewN (Below.refl _ _) nq
  have HK := Lib.hid hb1
  clear hcx hcx0 hcy hcy1 hsum hw0 hw1 hw2 hb1
  generalize w.drewN nq = w1 at *
  go_loopw [5, 6] (fun v i wr => ∃ k : Nat, k ≤ q ∧ (k = 0 ∨ 2 + (k - 1) / 4 < n) ∧ i = .int .i64 k ∧ OwnB w wr v (takeM bs k)) (fun _ i _ => q - (intOf i).toNat)
  case atStart => exact ⟨0, by omega, .inl rfl, rfl, Own.nil _ _, HK.out⟩
  case round =>
    obtain ⟨k, hkq, hkn, rfl, ho⟩ := hrel
    have HO := Lib.hid ho
    have HKN := Lib.hid hkn
    clear ho HK hkn
    have HLN := Lib.hid (takeM_len bs k)
    have hk8 : k ≤ 100008 := by have := HKN.out; omega
    obtain ⟨at_, hat⟩ : ∃ at_, at_ = 2 + k / 4 := ⟨_, rfl⟩
    have hati : 2 + (k : Int) / 4 = (at_ : Int) := by omega
    have HAT := Lib.hid hat
    have hat3 : at_ ≤ 30000 := by omega
    clear hat
    by_cases hlt : k < q
    · have hd1 : decide ((k : Int) < (q : Int)) = true := decide_eq_true (by omega)
      by_cases han : at_ < n
      · -- {A1
        have hd2 : decide ((at_ : Int) < (n : Int)) = true := decide_eq_true (by omega)
        obtain ⟨adx, z, he, hz, hz2, hcz⟩ := (HB.out.below HO.out.2).at_ han
        injection he with he
        subst he
        have hun : unp bs k = z / 4 ^ (k % 4) % 4 := unp_at (by rw [← HAT.out]; exact hz)
        obtain ⟨md, hmd⟩ : ∃ md, md = k % 4 := ⟨_, rfl⟩
        have hmdi : (k : Int) % 4 = (md : Int) := by omega
        have hmd3 : md ≤ 3 := by omega
        rw [← hmd] at hun
        have HUN := Lib.hid hun
        have hzz : ∀ r, z / 4 ^ r < 256 := fun r => Nat.lt_of_le_of_lt (Nat.div_le_self _ _) hz2
        have HZZ := Lib.hid hzz
        clear hz hun hzz hmd
        rename World => wo
        go_wp2
        go_loopw [7, 8] (fun xv rv wr => ∃ (r : Nat), r ≤ md ∧ xv = .int .i64 (z / 4 ^ r : Nat) ∧ rv = .int .i64 r ∧ wr = wo) (fun _ rv _ => md - (intOf rv).toNat)
        case atStart => exact ⟨0, by omega, by rw [Nat.pow_zero, Nat.div_one], rfl, by trivial⟩
        case round =>
          obtain ⟨r, hr, rfl, rfl, rfl⟩ := hrel
          have hzr := HZZ.out r
          by_cases hrm : r < md
          · have hdr : decide ((r : Int) < (md : Int)) = true := decide_eq_true (by omega)
            have HD := Lib.hid (div_four z r)
            generalize z / 4 ^ r = zr at *
            go_wp2
            refine ⟨⟨r + 1, by omega, ?_, by go_num, by trivial⟩, by simp only [intOf]; omega⟩
            rw [← HD.out]
            push_cast
            rfl
          · obtain rfl : r = md := by omega
            have hdr : decide ((r : Int) < (r : Int)) = false := decide_eq_false (by omega)
            have HS := Lib.hid (takeM_snoc bs k)
            rw [HUN.out] at HS
            have hln := takeM_len bs k
            generalize z / 4 ^ r = zr at *
            obtain ⟨u, hu⟩ : ∃ u, u = zr % 4 := ⟨_, rfl⟩
            have hui : (zr : Int) % 4 = (u : Int) := by omega
            have hu3 : u ≤ 3 := by omega
            rw [← hu] at HS
            clear hu
            have hsz := HO.out.2.size
            have HW := Lib.hid (fun (z : Int) t f => World.ownsRow.alloc HO.out.1 (.cells #[.int .u8 z] t f))
            go_wp2_with (refine app_bytes (.tmp 50) (.tmp 54) rfl rfl w.heap.size _ _ _ rfl (HW.out _ _ _) _ _ 1 1 [u] rfl (Bytes.new wr [u] _ _ (by intro x hx; simp at hx; subst hx; omega)) (by rw [hln]; omega) (by simp; omega) ?_
                         intro v5 w5 h5 g5 a5
                         have HV := Lib.hid (HO.out.one h5 g5)
                         clear h5 g5)
            refine ⟨⟨k + 1, by omega, .inr (by rw [Nat.add_sub_cancel, ← HAT.out]; exact han), by go_num, by rw [HS.out]; exact HV.out⟩, by simp only [intOf]; omega⟩
        -- A1}
      · have hd2 : decide ((at_ : Int) < (n : Int)) = false := decide_eq_false (by omega)
        have HN : Hid (¬ TakeOk bs) := Lib.hid (fun h => by
          have h1 := h.2.2.1
          rw [HC.out] at h1
          have := HAT.out
          omega)
        have hne : ((k : Int) != (q : Int)) = true := by simp; omega
        obtain ⟨Av, cv, rfl, -⟩ := HO.out.1.form
        rw [HLN.out] at HO ⊢
        go_wp2
        go_quiet (fail)
        go_wp2
        go_ret2
        exact ⟨below_drewN HO.out.2 _, .inr ⟨HN.out, rfl⟩⟩
    · obtain rfl : k = q := by omega
      have hd1 : decide ((k : Int) < (k : Int)) = false := decide_eq_false (by omega)
      have hne : ((k : Int) != (k : Int)) = false := by simp
      obtain ⟨Av, cv, hv, -⟩ := HO.out.1.form
      rw [HLN.out] at hv
      subst hv
      have hown : Own wr w.heap.size (.slice Av k cv) k (takeM bs k) := by have := HO.out.1; rwa [HLN.out] at this
      have hbel := HO.out.2
      have hby := hown.bytes (fun b hb => by have := takeM_le bs k b hb; omega)
      have HX := Lib.hid (And.intro hown (And.intro hbel hby))
      by_cases hg : k ≤ 256
      · have hgood : Good (takeM bs k) := ⟨by rw [takeM_len]; exact hg, takeM_le bs k⟩
        have hgo := dgood_any Av k cv _ (takeM bs k) wr.drew (by omega) hby.drew
        rw [show decide (Good (takeM bs k)) = true from decide_eq_true hgood] at hgo
        have hpu := dput_any Av k cv (takeM bs k) wr.drew hby.drew hgood
        have HGo := Lib.hid (And.intro hgo hpu)
        have hkb := str_of (P := Try.prog) (HB.out.below hbel).drew c 23 9 5 Try.underlying23 Try.underlying5 Try.underlying9
        have hbd : Below w.heap.size w wr.drew := ⟨hbel.os, hbel.tape, hbel.output, hbel.size, hbel.block⟩
        have HY := Lib.hid (And.intro hgood hbd)
        have he : ((strOf (putM (takeM bs k))).toList == (strOf bs).toList) = (putM (takeM bs k) == bs) := by
          rw [Bool.eq_iff_iff, beq_iff_eq, beq_iff_eq, ByteArray.toList_eq, ByteArray.toList_eq]
          exact ⟨fun e => strOf_inj (putM_lt hgood) HB.out.2 (Go.WideShapes.bytes_inj e), fun e => by rw [e]⟩
        have HE := Lib.hid he
        clear hgo hpu hown hbel hby HO hgood hbd he
        generalize hs2 : strOf bs = s2 at *
        generalize hs1 : strOf (putM (takeM bs k)) = s1 at *
        have HSS := Lib.hid (And.intro hs1 hs2)
        clear hs1 hs2
        go_wp2
        go_region_with (first
          | (go_at_call 92; refine HGo.out.1.mono ?_; rintro e w2 ⟨he, hw⟩; subst he; subst hw)
          | (go_at_call 102; refine HGo.out.2.mono ?_; rintro e w2 ⟨v2, he, ho2, hb2⟩; subst he; obtain ⟨A2, c2, hv2, -⟩ := ho2.form; subst hv2
             have kp := str_of (P := Try.prog) (ho2.bytes (putM_lt HY.out.1)) c2 23 9 5 Try.underlying23 Try.underlying5 Try.underlying9
             have kb := str_of (P := Try.prog) ((HB.out.below HY.out.2).below (hb2.mono HY.out.2.size)) c 23 9 5 Try.underlying23 Try.underlying5 Try.underlying9
             rw [HSS.out.1] at kp
             rw [HSS.out.2] at kb
             have HB2 := Lib.hid (And.intro ho2 hb2)
             clear ho2 hb2))
        all_goals
          by_cases heq : putM (takeM bs k) = bs
          · have HN : Hid (TakeOk bs) := Lib.hid ⟨by omega, by rw [HC.out]; exact hg, by have h1 := congrArg List.length heq; rw [putM_len, HLN.out, hl] at h1; rw [HC.out, hl]; exact h1.symm, by rw [HC.out]; exact heq⟩
            have hc1 : (s1.toList == s2.toList) = true := by rw [HE.out]; simpa using heq
            have HC1 := Lib.hid hc1
            have HFin : Hid (DTakeTo w bs (.returned (.tuple #[.slice Av k cv, .bool true])) w2) := Lib.hid ⟨HY.out.2.trans (HB2.out.2.mono HY.out.2.size), .inl ⟨HN.out, _, rfl, by rw [HC.out]; exact Own.below (w := wr.drew) HX.out.1 HB2.out.2⟩⟩
            clear hc1
            go_wp2
            all_goals rename_i hx
            all_goals first
              | (rw [HC1.out] at hx; cases hx; done)
              | (go_ret2; exact HFin.out)
          · have HN : Hid (¬ TakeOk bs) := Lib.hid (fun h => heq (by have := h.2.2.2; rwa [HC.out] at this))
            have hc1 : (s1.toList == s2.toList) = false := by rw [HE.out]; simpa using heq
            have HC1 := Lib.hid hc1
            have HFin : Hid (DTakeTo w bs (.returned (.tuple #[.slice none 0 0, .bool false])) w2) := Lib.hid ⟨HY.out.2.trans (HB2.out.2.mono HY.out.2.size), .inr ⟨HN.out, rfl⟩⟩
            clear hc1
            go_wp2
            all_goals rename_i hx
            all_goals first
              | (rw [HC1.out] at hx; cases hx; done)
              | (go_ret2; exact HFin.out)
      · have HN : Hid (¬ TakeOk bs) := Lib.hid (fun h => by have h1 := h.2.1; rw [HC.out] at h1; omega)
        have hgo := fun m => dgood_any Av k cv _ (takeM bs k) (wr.drewN m) (by omega) (hby.drewN m)
        rw [show decide (Good (takeM bs k)) = false from decide_eq_false (fun h => by have := h.1; rw [takeM_len] at this; omega)] at hgo
        have HGo := Lib.hid hgo
        clear hgo hown hbel hby HO
        go_wp2
        go_quiet ((go_at_call 92; exact Calls.quiet_of_same ((HGo.out _).mono fun e w' h => ⟨h.1, h.2.symm⟩)))
        go_wp2
        go_ret2
        exact ⟨below_drewN HX.out.2.1 _, .inr ⟨HN.out, rfl⟩⟩
end Go.Proofs.Ytgddenhnpjoabaa

/-
  Heads in memory: how they lie, how they are read. No condition but the sizes.
-/
namespace Go.Proofs.Ytgddenhnpjoabaa
open Go.RowKit
set_option linter.unusedSimpArgs false
set_option linter.unusedVariables false
set_option maxRecDepth 100000
theorem own_ty {W : World} {base size n : Nat} {e : TypeId} {v : Value} {xs : List Value} (h : W.ownsRow base e size v n xs) {k : Nat} (hk : k ∈ rowOf v) : ∃ cs, Blk W k e cs := by
  rcases h.2 with ⟨rfl, _⟩ | ⟨g, c, cur, rfl, hb, hh, _⟩
  · simp [rowOf, Value.ownBlock] at hk
  · simp [rowOf, Value.ownBlock] at hk
    subst hk
    exact ⟨cur, hh⟩
theorem row_slice (A : Option Addr) (n c n' c' : Nat) : rowOf (.slice A n c) = rowOf (.slice A n' c') := by cases A <;> rfl
/-- how long a row of the call's own is, and where it starts -/
theorem own_shape {W : World} {base size n m c : Nat} {e : TypeId} {A : Option Addr} {xs : List Value} (h : W.ownsRow base e size (.slice A m c) n xs) : m = n ∧ n ≤ c ∧ c ≤ maxLen ∧ (A = none ∨ ∃ b, A = some ⟨b, 0, none⟩ ∧ base ≤ b ∧ b < W.heap.size) := by
  rcases h.2 with ⟨e, h0⟩ | ⟨b, cap, cur, e, hb, hh, h1, h2, _⟩
  · injection e with e1 e2 e3
    subst e1 e2 e3 h0
    exact ⟨rfl, Nat.le_refl _, by simp [maxLen], .inl rfl⟩
  · injection e with e1 e2 e3
    subst e1 e2 e3
    exact ⟨rfl, h1, h2, .inr ⟨b, rfl, hb, (show Blk W b e cur from hh).lt⟩⟩
theorem own_form {W : World} {base size n : Nat} {e : TypeId} {v : Value} {xs : List Value} (h : W.ownsRow base e size v n xs) : ∃ A c, v = .slice A n c := by
  rcases h.2 with ⟨rfl, h0⟩ | ⟨g, cap, cur, rfl, _⟩
  · exact ⟨none, 0, by rw [h0]⟩
  · exact ⟨_, cap, rfl⟩
theorem own_below {w w' : World} {base size n : Nat} {e : TypeId} {v : Value} {xs : List Value} (h : w.ownsRow base e size v n xs) (hb : Below w.heap.size w w') : w'.ownsRow base e size v n xs := row_of h fun k hk => hb.block k (row_under h k hk)
theorem run_store_cell {P : Program} (w : World) (g i : Nat) (ty : TypeId) (v : Value) (ht : w.there g i 1) (hi : (P.info? ty).map (·.size) = some 1) (h1 : v.oneCell' = true) :
    (storeVar ty ⟨g, i, none⟩ v).run P w = .ok () (w.setCell ⟨g, i, none⟩ v) := by
  have := run_storeCells_cells (P := P) g i [v] 0 w (fun j hj => by simpa using (ht j (by simpa using hj)).1) (fun j hj => by simpa using (ht j (by simpa using hj)).2) (fun u hu => by simp at hu; subst hu; exact h1)
  have hc : v.cells = #[v] := by cases v <;> first | rfl | cases h1
  cases hq : P.info? ty with
  | none => simp [hq] at hi
  | some i0 =>
    have hs : i0.size = 1 := by simpa [hq] using hi
    simp only [Nat.add_zero] at this
    simp [storeVar, sizeOf, typeInfo, hq, hc, hs, this, World.setCells]
section
variable {P : Program} {ops : Array Oper} {rest : List Oper} {o : Oper} {a : Act} {w : World} {Q : Exit → Act → World → Prop}
theorem wp_setq {K : Act → World → Prop} (ty : TypeId) (x y : Operand) (ho : o.op = .store ty x y)
    (g i : Nat) (t : TypeId) (cs : Array Value) (v : Value) (hx : a.eval x = .pointer (some ⟨g, i, none⟩)) (hy : a.eval y = v) (hB : Blk w g t cs) (hs : i < cs.size) (hi : (P.info? ty).map (·.size) = some 1) (h1 : v.oneCell' = true)
    (h : ∀ w', Blk w' g t (cs.setIfInBounds i v) → Only [g] w w' → w'.heap.size = w.heap.size → K (a.put o.dst undef) w') : o.wp P a w K Q := by
  unfold Oper.wp execOp
  simp only [ho, hx, hy, Instr.storeAt, Instr.sureAddr, Sem.run_bind, Sem.run_pure, Result.andThen_ok, run_store_cell w g i ty v (hB.there (by omega)) hi h1]
  exact h _ (hB.set_ i v) ((Only.refl _ _).setCell (.inl (by simp)) _) (by simp [World.setCell])
/-- one cell of a block known whole is stored -/
theorem wpList_setq (hgd : o.guard = none) (ty : TypeId) (x y : Operand) (ho : o.op = .store ty x y)
    (g i : Nat) (t : TypeId) (cs : Array Value) (v : Value) (hx : a.eval x = .pointer (some ⟨g, i, none⟩)) (hy : a.eval y = v) (hB : Blk w g t cs) (hs : i < cs.size) (hi : (P.info? ty).map (·.size) = some 1) (h1 : v.oneCell' = true)
    (h : ∀ w', Blk w' g t (cs.setIfInBounds i v) → Only [g] w w' → w'.heap.size = w.heap.size → wpList P ops Q rest (a.put o.dst undef) w') : wpList P ops Q (o :: rest) a w :=
  wpList_plain hgd fun _ hK => wp_setq ty x y ho g i t cs v hx hy hB hs hi h1 fun w' h1 h2 h3 => hK _ _ (h w' h1 h2 h3)
/-- a block known whole is stored over -/
theorem wpList_storeq (hgd : o.guard = none) (ty : TypeId) (x y : Operand) (ho : o.op = .store ty x y)
    (g : Nat) (cs : Array Value) (vs : List Value) (hx : a.eval x = .pointer (some ⟨g, 0, none⟩)) (hy : a.eval y = .agg vs.toArray) (hB : Blk w g ty cs) (hs : vs.length = cs.size) (hi : (P.info? ty).map (·.size) = some vs.length) (h1 : ∀ v ∈ vs, v.oneCell' = true)
    (h : ∀ w', Blk w' g ty vs.toArray → Only [g] w w' → w'.heap.size = w.heap.size → wpList P ops Q rest (a.put o.dst undef) w') : wpList P ops Q (o :: rest) a w :=
  wpList_store_mid hgd ty x y ho g 0 vs.toArray hx hy (hB.there (by simp [hs])) (by simpa using hi) (all_oneCell_toArray h1)
    (h _ (by simpa using hB.over vs hs) ((Only.refl _ _).grown (by simpa using (setCells_grown g vs 0 w).1) (fun k e => .inl (by injection e with e; simp [e]))) (by simpa using (setCells_grown g vs 0 w).2))
theorem wpList_loadq (hgd : o.guard = none) (ty : TypeId) (x : Operand) (ho : o.op = .load ty x)
    (g : Nat) (cs : List Value) (d : TypeDesc) (hx : a.eval x = .pointer (some ⟨g, 0, none⟩)) (hB : Blk w g ty cs.toArray) (hu : P.underlying ty = some d) (hd : d.isRow = true) (hi : (P.info? ty).map (·.size) = some cs.length)
    (h : wpList P ops Q rest (a.put o.dst (.agg cs.toArray)) w) : wpList P ops Q (o :: rest) a w :=
  wpList_load_mid hgd ty x ho g 0 hx cs d hB.range hu hd hi h
/-- a struct that lies somewhere is loaded -/
theorem run_loadVar_cells {ty : TypeId} {d : TypeDesc} (hu : P.underlying ty = some d) (hd : d.isRow = true) (w : World) (p : Addr) (cs : List Value) (hi : (P.info? ty).map (·.size) = some cs.length) (hc : ∀ j v, cs[j]? = some v → w.cell? (p.add j) = some v) : (loadVar ty p).run P w = .ok (.agg cs.toArray) w := by
  have hl : (loadCells p cs.length).run P w = .ok cs.toArray w := run_loadCells_list (P := P) w p cs hc
  have hagg : (isAgg ty).run P w = .ok true w := by
    unfold isAgg
    rw [Sem.run_bind, run_underlying hu w]
    cases d <;> first | rfl | cases hd
  cases hq : P.info? ty with
  | none => simp [hq] at hi
  | some i =>
    have hs : i.size = cs.length := by simpa [hq] using hi
    simp [loadVar, Sem.run_bind, hagg, sizeOf, typeInfo, hq, hs, hl]
theorem wpList_loadp (hgd : o.guard = none) (ty : TypeId) (x : Operand) (ho : o.op = .load ty x)
    (p : Addr) (cs : List Value) (d : TypeDesc) (hx : a.eval x = .pointer (some p)) (hc : ∀ j v, cs[j]? = some v → w.cell? (p.add j) = some v) (hu : P.underlying ty = some d) (hd : d.isRow = true) (hi : (P.info? ty).map (·.size) = some cs.length)
    (h : wpList P ops Q rest (a.put o.dst (.agg cs.toArray)) w) : wpList P ops Q (o :: rest) a w :=
  wpList_plain hgd fun _ hK => by
    unfold Oper.wp execOp
    simp only [ho, hx, Instr.loadAt, Instr.sureAddr, Sem.run_bind, Sem.run_pure, Result.andThen_ok, run_loadVar_cells hu hd w p cs hi hc]
    exact hK _ _ h
end
theorem Blk.only {F : List Nat} {w w' : World} {g : Nat} {t : TypeId} {cs : Array Value} (h : Blk w g t cs) (ho : Only F w w') (hn : g ∉ F) : Blk w' g t cs := h.of (ho.block g h.lt hn)
/-- the names of a row -/
def strs (l : List (List Nat)) : List Value := l.map fun c => .string (strOf c)
theorem strs_len (l : List (List Nat)) : (strs l).length = l.length := by simp [strs]
def Strs (w : World) (B : Nat) (A : Option Addr) (n : Nat) (l : List (List Nat)) : Prop := Reads w B 1 A n (strs l) ∧ ∀ c ∈ l, ∀ b ∈ c, b < 256
section
variable {w w' : World} {B B' n : Nat} {A : Option Addr} {l : List (List Nat)}
theorem Strs.len (h : Strs w B A n l) : l.length = n := by have := h.1.1; rw [strs_len] at this; omega
theorem Strs.since (h : Strs w B A n l) (hb : Below w.heap.size w w') : Strs w' B A n l := ⟨h.1.since hb, h.2⟩
theorem Strs.more (h : Strs w B A n l) (hB : B ≤ B') : Strs w B' A n l := ⟨h.1.more hB, h.2⟩
theorem Strs.drew (h : Strs w B A n l) : Strs w.drew B A n l := h
theorem Strs.drewN (h : Strs w B A n l) (k : Nat) : Strs (w.drewN k) B A n l := h
theorem Strs.at_ {k : Nat} (h : Strs w B A n l) (hk : k < n) : ∃ ad c, A = some ad ∧ l[k]? = some c ∧ (∀ b ∈ c, b < 256) ∧ w.cell? (ad.add k) = some (.string (strOf c)) := by
  obtain ⟨ad, u, e, hb, hx, hc⟩ := Reads.at_ h.1 hk
  have hl : k < l.length := by have := h.len; omega
  refine ⟨ad, l[k], e, List.getElem?_eq_getElem hl, h.2 _ (List.getElem_mem hl), ?_⟩
  rw [hc, ← hx]
  simp [strs, hl]
end
theorem strs_one (l : List (List Nat)) : ∀ u ∈ strs l, u.oneCell' = true := by
  intro u hu
  obtain ⟨b, _, rfl⟩ := List.mem_map.1 hu
  rfl
theorem str_eq {a b : List Nat} (ha : ∀ x ∈ a, x < 256) (hb : ∀ x ∈ b, x < 256) : ((strOf a).toList == (strOf b).toList) = decide (a = b) := by
  rw [Bool.eq_iff_iff, beq_iff_eq, decide_eq_true_iff, ByteArray.toList_eq, ByteArray.toList_eq]
  exact ⟨fun e => strOf_inj ha hb (Go.WideShapes.bytes_inj e), fun e => by rw [e]⟩
/-- a view of a head or a snapshot, and where its marks lie -/
structure VA where
  size : Int
  on : Bool
  good : Bool
  row : List Nat
  M : Option Addr
  cm : Nat
  par : List Nat
  ps : Int
  ov : Int
def VA.mk' (s : VA) : MkV := ⟨s.on, s.good, s.row⟩
def VA.lk (s : VA) : LkV := ⟨s.par, s.ps, s.ov⟩
def VA.cs (s : VA) : Array Value := #[.int .i64 s.size, .bool s.on, .bool s.good, .slice s.M s.row.length s.cm, .string (strOf s.par), .int .i64 s.ps, .int .i64 s.ov]
structure VA.R (s : VA) (w : World) : Prop where
  row : Bytes w w.heap.size s.M s.row.length s.row
  par : ∀ b ∈ s.par, b < 256
  size : I64 s.size
  ps : I64 s.ps
  ov : I64 s.ov
  l1 : s.row.length ≤ 9223372036854775807
  l2 : s.par.length ≤ 9223372036854775807
  c1 : s.row.length ≤ s.cm
theorem VA.R.since {s : VA} {w w' : World} (h : s.R w) (hb : Below w.heap.size w w') : s.R w' := ⟨(h.row.since hb).more hb.size, h.par, h.size, h.ps, h.ov, h.l1, h.l2, h.c1⟩
structure VA.Sm (s : VA) : Prop where
  row : s.row.length ≤ 10000
  par : s.par.length ≤ 1000000
/-- a snapshot, and where it lies -/
structure SA where
  num : Int
  name : List Nat
  prot : Bool
  vw : VA
  ch : List (List Nat)
  C : Option Addr
  cc : Nat
def SA.v (s : SA) : SnV := ⟨s.num, s.vw.size, s.name, s.prot, s.vw.mk', s.vw.lk, s.ch⟩
/-- as the program's; as the document's -/
def SA.cells (s : SA) : List Value := [.int .i64 s.num, .int .i64 s.vw.size, .string (strOf s.name), .bool s.vw.on, .bool s.vw.good, .bool s.prot, .slice s.vw.M s.vw.row.length s.vw.cm, .string (strOf s.vw.par), .int .i64 s.vw.ps, .int .i64 s.vw.ov, .slice s.C s.ch.length s.cc]
def SA.dcells (s : SA) : List Value := [.int .i64 s.num, .int .i64 s.vw.size, .string (strOf s.name), .bool s.prot, .bool s.vw.on, .bool s.vw.good, .slice s.vw.M s.vw.row.length s.vw.cm, .string (strOf s.vw.par), .int .i64 s.vw.ps, .int .i64 s.vw.ov, .slice s.C s.ch.length s.cc]
theorem SA.cells_len (s : SA) : s.cells.length = 11 := rfl
theorem SA.dcells_len (s : SA) : s.dcells.length = 11 := rfl
theorem SA.cells_one (s : SA) : ∀ u ∈ s.cells, u.oneCell' = true := by
  intro u hu
  simp [SA.cells] at hu
  rcases hu with rfl | rfl | rfl | rfl | rfl | rfl | rfl | rfl | rfl | rfl | rfl <;> rfl
theorem SA.dcells_one (s : SA) : ∀ u ∈ s.dcells, u.oneCell' = true := by
  intro u hu
  simp [SA.dcells] at hu
  rcases hu with rfl | rfl | rfl | rfl | rfl | rfl | rfl | rfl | rfl | rfl | rfl <;> rfl
structure SA.R (s : SA) (w : World) : Prop where
  vw : s.vw.R w
  ch : Strs w w.heap.size s.C s.ch.length s.ch
  name : ∀ b ∈ s.name, b < 256
  num : I64 s.num
  l1 : s.ch.length ≤ 9223372036854775807
  l2 : s.name.length ≤ 9223372036854775807
  c1 : s.ch.length ≤ s.cc
theorem SA.R.since {s : SA} {w w' : World} (h : s.R w) (hb : Below w.heap.size w w') : s.R w' := ⟨h.vw.since hb, (h.ch.since hb).more hb.size, h.name, h.num, h.l1, h.l2, h.c1⟩
structure SA.Sm (s : SA) : Prop where
  vw : s.vw.Sm
  name : s.name.length ≤ 1000000
  ch : s.ch.length ≤ 10000
  cl : ∀ c ∈ s.ch, c.length ≤ 1000000
/-- a head, and where it lies -/
structure HA where
  id : Int
  obj : Int
  seq : Int
  S : Option Addr
  cs' : Nat
  sn : List SA
  vw : VA
  ow : Int
  it : Int
  tg : Int
def HA.v (h : HA) : HdV := ⟨h.id, h.vw.size, h.obj, h.seq, h.sn.map SA.v, h.vw.mk', h.vw.lk, h.ow, h.it, h.tg⟩
def HA.cs (h : HA) : Array Value := #[.int .i64 h.id, .int .i64 h.vw.size, .int .i64 h.obj, .int .i64 h.seq, .slice h.S h.sn.length h.cs', .bool h.vw.on, .bool h.vw.good, .slice h.vw.M h.vw.row.length h.vw.cm, .string (strOf h.vw.par), .int .i64 h.vw.ps, .int .i64 h.vw.ov, .int .i64 h.ow, .int .i64 h.it, .int .i64 h.tg]
structure HA.R (h : HA) (cf : SA → List Value) (w : World) : Prop where
  vw : h.vw.R w
  row : Reads w w.heap.size 11 h.S h.sn.length (h.sn.flatMap cf)
  sn : ∀ s ∈ h.sn, s.R w
  id : I64 h.id
  obj : I64 h.obj
  seq : I64 h.seq
  ow : I64 h.ow
  it : I64 h.it
  tg : I64 h.tg
  l1 : h.sn.length ≤ 9223372036854775807
  c1 : h.sn.length ≤ h.cs'
theorem HA.R.since {h : HA} {cf : SA → List Value} {w w' : World} (hR : h.R cf w) (hb : Below w.heap.size w w') : h.R cf w' := ⟨hR.vw.since hb, (hR.row.since hb).more hb.size, fun s hs => (hR.sn s hs).since hb, hR.id, hR.obj, hR.seq, hR.ow, hR.it, hR.tg, hR.l1, hR.c1⟩
structure HA.Sm (h : HA) : Prop where
  vw : h.vw.Sm
  cn : h.sn.length ≤ 1000
  sn : ∀ s ∈ h.sn, s.Sm
theorem snap_at {w : World} {B : Nat} {A : Option Addr} {l : List SA} {cf : SA → List Value} (hcf : ∀ s, (cf s).length = 11) (h : Reads w B 11 A l.length (l.flatMap cf)) {k : Nat} {s : SA} (hk : l[k]? = some s) : ∃ ad, A = some ad ∧ ad.block < B ∧ ∀ j v, (cf s)[j]? = some v → w.cell? ((ad.add (k * 11)).add j) = some v := by
  have hl := (List.getElem?_eq_some_iff.1 hk).1
  obtain ⟨ad, e, hb, hc⟩ := h.2 (by omega)
  refine ⟨ad, e, hb, fun j v hj => ?_⟩
  rw [add_of_add]
  have hj2 : j < 11 := by have := (List.getElem?_eq_some_iff.1 hj).1; rwa [hcf] at this
  exact hc _ v (by rw [flat_at cf 11 hcf l k j s hk hj2]; exact hj)
end Go.Proofs.Ytgddenhnpjoabaa

/-
  Names, objects, views of heads. Conditions: numbers are 64 bits wide, texts no more than a million.
-/
namespace Go.Proofs.Ytgddenhnpjoabaa
open Go.RowKit Go.BigFrame
set_option linter.unusedSimpArgs false
set_option linter.unusedVariables false
set_option maxRecDepth 100000
theorem wrap_in {n : Int} (h : I64 n) : IntKind.i64.wrap n = n := by
  unfold I64 at h
  rw [IntKind.wrap_i64]
  omega
theorem objs_range {size obj : Int} (h1 : I64 size) (h2 : I64 obj) : I64 (objsOf size obj) := by
  unfold I64 objsOf at *
  split
  · omega
  · rename_i h
    have a1 : 1 ≤ obj := by omega
    have a2 : 0 ≤ size - 1 := by omega
    have a3 : 0 ≤ (size - 1) / obj := Int.ediv_nonneg a2 (by omega)
    have a4 : (size - 1) / obj ≤ size - 1 := Int.ediv_le_self _ a2
    omega
theorem objects_any (size obj : Int) (h1 : I64 size) (h2 : I64 obj) (w : World) : Calls Try.prog 32 #[.int .i64 size, .int .i64 obj] w fun e w' => e = .returned (.int .i64 (objsOf size obj)) ∧ w = w' := by
  by_cases a : size < 1
  · have hd1 : decide (size < (1 : Int)) = true := decide_eq_true a
    have he : objsOf size obj = 0 := by unfold objsOf; rw [if_pos (.inl a)]
    rw [he]
    go_enter Try.func32, Try.ntmps32
    go_wp2
    go_ret
    exact ⟨rfl, rfl⟩
  · have hd1 : decide (size < (1 : Int)) = false := decide_eq_false a
    by_cases b : obj < 1
    · have hd2 : decide (obj < (1 : Int)) = true := decide_eq_true b
      have he : objsOf size obj = 0 := by unfold objsOf; rw [if_pos (.inr b)]
      rw [he]
      go_enter Try.func32, Try.ntmps32
      go_wp2
      go_ret
      exact ⟨rfl, rfl⟩
    · have hd2 : decide (obj < (1 : Int)) = false := decide_eq_false b
      have he : objsOf size obj = (size - 1) / obj + 1 := by unfold objsOf; rw [if_neg (by omega)]
      have hr := objs_range h1 h2
      rw [he] at hr ⊢
      have hq : (size - 1).tdiv obj = (size - 1) / obj := Int.tdiv_eq_ediv_of_nonneg (by omega)
      have w1 : IntKind.i64.wrap (size - 1) = size - 1 := wrap_in (by unfold I64 at *; omega)
      have w2 : IntKind.i64.wrap ((size - 1) / obj) = (size - 1) / obj := wrap_in (by have a3 : 0 ≤ (size - 1) / obj := Int.ediv_nonneg (by omega) (by omega); unfold I64 at *; clear w1 hq; omega)
      have w3 : IntKind.i64.wrap ((size - 1) / obj + 1) = (size - 1) / obj + 1 := wrap_in hr
      have hne : obj ≠ 0 := by omega
      have hne2 : (obj == 0) = false := by simpa using hne
      go_enter Try.func32, Try.ntmps32
      go_wp2
      go_ret
      exact ⟨rfl, rfl⟩
theorem isobj_any (n : Int) (w : World) : Calls Try.prog 44 #[.int .i64 n] w fun e w' => e = .returned (.bool (isObjB n)) ∧ w = w' := by
  unfold isObjB
  by_cases a : n = 16
  · subst a
    go_enter Try.func44, Try.ntmps44
    go_wp2
    go_ret
    exact ⟨rfl, rfl⟩
  have a' : (n == 16) = false := by simpa using a
  by_cases b : n = 32
  · subst b
    go_enter Try.func44, Try.ntmps44
    go_wp2
    go_ret
    exact ⟨rfl, rfl⟩
  have b' : (n == 32) = false := by simpa using b
  by_cases c : n = 64
  · subst c
    go_enter Try.func44, Try.ntmps44
    go_wp2
    go_ret
    exact ⟨rfl, rfl⟩
  have c' : (n == 64) = false := by simpa using c
  by_cases d : n = 128
  · subst d
    go_enter Try.func44, Try.ntmps44
    go_wp2
    go_ret
    exact ⟨rfl, rfl⟩
  have d' : (n == 128) = false := by simpa using d
  by_cases f : n = 256
  · subst f
    go_enter Try.func44, Try.ntmps44
    go_wp2
    go_ret
    exact ⟨rfl, rfl⟩
  have f' : (n == 256) = false := by simpa using f
  rw [a', b', c', d', f']
  go_enter Try.func44, Try.ntmps44
  go_wp2
  go_ret
  exact ⟨rfl, rfl⟩
theorem sign_cases (b : Nat) : (okSign b = true ∧ ((97 ≤ b ∧ b ≤ 122) ∨ (48 ≤ b ∧ b ≤ 57) ∨ b = 45)) ∨ (okSign b = false ∧ (b < 97 ∨ 122 < b) ∧ (b < 48 ∨ 57 < b) ∧ b ≠ 45) := by
  unfold okSign
  by_cases h1 : 97 ≤ b <;> by_cases h2 : b ≤ 122 <;> by_cases h3 : 48 ≤ b <;> by_cases h4 : b ≤ 57 <;> by_cases h5 : b = 45 <;> simp [h1, h2, h3, h4, h5] <;> omega
set_option maxHeartbeats 2000000 in
theorem named_any (bs : List Nat) (hb : ∀ b ∈ bs, b < 256) (hl : bs.length ≤ 1000000) (w : World) : Calls Try.prog 95 #[.string (strOf bs)] w fun e w' => e = .returned (.bool (namedB bs)) ∧ Below w.heap.size w w' := by
  have hsz := strOf_size bs
  unfold namedB
  by_cases h1 : 1 ≤ bs.length
  · have hd1 : decide ((bs.length : Int) < 1) = false := decide_eq_false (by omega)
    have hd1' : decide (1 ≤ bs.length) = true := decide_eq_true h1
    by_cases h2 : bs.length ≤ 20
    · have hd2 : decide (20 < (bs.length : Int)) = false := decide_eq_false (by omega)
      have hd2' : decide (bs.length ≤ 20) = true := decide_eq_true h2
      have hr' : ∀ q, (decide (1 ≤ bs.length) && decide (bs.length ≤ 20) && q) = q := fun q => by rw [hd1', hd2']; cases q <;> rfl
      rw [hr']
      have HB := Lib.hid hb
      obtain ⟨cap, w2, hr, hbl, hby⟩ := conv_str w bs HB.out
      have HBL := Lib.hid (And.intro hbl hby)
      clear hb hbl hby hr'
      go_enter Try.func95, Try.ntmps95
      go_wp2
      go_loopw [16] (fun i wr => ∃ k : Nat, k ≤ bs.length ∧ i = .int .i64 k ∧ wr = w2 ∧ (bs.take k).all okSign = true) (fun i _ => bs.length - (intOf i).toNat)
      case atStart => exact ⟨0, by omega, rfl, by trivial, rfl⟩
      case round =>
        obtain ⟨k, hk, rfl, rfl, hall⟩ := hrel
        have HA := Lib.hid hall
        clear hall
        by_cases hlt : k < bs.length
        · obtain ⟨ad, b, had, hb, hb2, hc⟩ := HBL.out.2.at_ hlt
          have hts : (bs.take (k + 1)).all okSign = okSign b := by
            rw [List.take_add_one, hb, List.all_append, HA.out]
            simp
          have HB2 := Lib.hid hb
          have HTS := Lib.hid hts
          have hwk : IntKind.i64.wrap ((k : Int) + 1) = (k : Int) + 1 := by rw [IntKind.wrap_i64]; omega
          injection had with had
          subst had
          rw [add_zero_off] at hc
          clear hb hts
          rcases sign_cases b with ⟨hok, hs⟩ | ⟨hok, hs1, hs2, hs3⟩
          · have HOK := Lib.hid hok
            clear hok
            rcases hs with ⟨ha, hz⟩ | ⟨ha, hz⟩ | rfl
            · have d1 : decide ((b : Int) < 97) = false := decide_eq_false (by omega)
              have d2 : decide (122 < (b : Int)) = false := decide_eq_false (by omega)
              go_wp2
              go_roundw
              case rel => exact ⟨k + 1, by omega, by go_num, by trivial, by rw [HTS.out]; exact HOK.out⟩
              case measure => simp [intOf]; omega
            · have d1 : decide ((b : Int) < 97) = true := decide_eq_true (by omega)
              have d3 : decide ((b : Int) < 48) = false := decide_eq_false (by omega)
              have d4 : decide (57 < (b : Int)) = false := decide_eq_false (by omega)
              go_wp2
              go_roundw
              case rel => exact ⟨k + 1, by omega, by go_num, by trivial, by rw [HTS.out]; exact HOK.out⟩
              case measure => simp [intOf]; omega
            · go_wp2
              go_roundw
              case rel => exact ⟨k + 1, by omega, by go_num, by trivial, by rw [HTS.out]; exact HOK.out⟩
              case measure => simp [intOf]; omega
          · have hres : bs.all okSign = false := by
              rw [List.all_eq_false]
              exact ⟨b, List.mem_of_getElem? HB2.out, by rw [hok]; simp⟩
            have HR := Lib.hid hres
            have d5 : ((b : Int) != 45) = true := by simp; omega
            clear hok hres
            by_cases c1 : b < 97
            · have d1 : decide ((b : Int) < 97) = true := decide_eq_true (by omega)
              by_cases c2 : b < 48
              · have d3 : decide ((b : Int) < 48) = true := decide_eq_true (by omega)
                go_wp2
                go_ret
                exact ⟨by rw [HR.out]; rfl, HBL.out.1⟩
              · have d3 : decide ((b : Int) < 48) = false := decide_eq_false (by omega)
                have d4 : decide (57 < (b : Int)) = true := decide_eq_true (by omega)
                go_wp2
                go_ret
                exact ⟨by rw [HR.out]; rfl, HBL.out.1⟩
            · have d1 : decide ((b : Int) < 97) = false := decide_eq_false (by omega)
              have d2 : decide (122 < (b : Int)) = true := decide_eq_true (by omega)
              have d3 : decide ((b : Int) < 48) = false := decide_eq_false (by omega)
              have d4 : decide (57 < (b : Int)) = true := decide_eq_true (by omega)
              go_wp2
              go_ret
              exact ⟨by rw [HR.out]; rfl, HBL.out.1⟩
        · obtain rfl : k = bs.length := by omega
          have hres : bs.all okSign = true := by have := HA.out; rwa [List.take_length] at this
          have HR := Lib.hid hres
          clear hres
          go_wp2
          go_ret
          exact ⟨by rw [HR.out]; rfl, HBL.out.1⟩
    · have hd2 : decide (20 < (bs.length : Int)) = true := decide_eq_true (by omega)
      have hd2' : decide (bs.length ≤ 20) = false := decide_eq_false h2
      have hr' : (decide (1 ≤ bs.length) && decide (bs.length ≤ 20) && bs.all okSign) = false := by rw [hd1', hd2']; rfl
      rw [hr']
      go_enter Try.func95, Try.ntmps95
      go_wp2
      go_ret
      exact ⟨rfl, Below.refl _ _⟩
  · have hd1 : decide ((bs.length : Int) < 1) = true := decide_eq_true (by omega)
    have hd1' : decide (1 ≤ bs.length) = false := decide_eq_false h1
    have hr' : (decide (1 ≤ bs.length) && decide (bs.length ≤ 20) && bs.all okSign) = false := by rw [hd1']; rfl
    rw [hr']
    go_enter Try.func95, Try.ntmps95
    go_wp2
    go_ret
    exact ⟨rfl, Below.refl _ _⟩
end Go.Proofs.Ytgddenhnpjoabaa

/-
  What views say. Conditions: they read as they are said to.
-/
namespace Go.Proofs.Ytgddenhnpjoabaa
open Go.RowKit Go.BigFrame
set_option linter.unusedSimpArgs false
set_option linter.unusedVariables false
set_option maxRecDepth 100000
theorem blk_two (w : World) (o : Obj) (t : TypeId) (cs : Array Value) : Blk ((w.alloc o).alloc (.cells cs t)) (w.heap.size + 1) t cs := by
  have := Blk.new (w.alloc o) t cs
  rwa [World.size_alloc] at this
def ViewTo (w : World) (v : VA) (e : Ending) (w' : World) : Prop := e = .returned (.agg v.cs) ∧ Below w.heap.size w w'
set_option maxHeartbeats 1000000 in
theorem hview_any (h : HA) (w : World) : Calls Try.prog 35 #[.agg h.cs] w (ViewTo w h.vw) := by
  unfold HA.cs
  go_enter Try.func35, Try.ntmps35
  go_wp2
  refine bodyPost_ret (results_cell_row rfl _ _ (w.heap.size + 1) 82 h.vw.cs (0, 0) _ rfl (blk_two _ _ _ _) Try.underlying82 rfl (by kernel_rfl)) rfl ?_
  exact ⟨rfl, (below_alloc w _).alloc (by simp) _⟩
set_option maxHeartbeats 1000000 in
theorem sview_any (s : SA) (w : World) : Calls Try.prog 87 #[.agg s.cells.toArray] w (ViewTo w s.vw) := by
  unfold SA.cells
  go_enter Try.func87, Try.ntmps87
  go_wp2
  refine bodyPost_ret (results_cell_row rfl _ _ (w.heap.size + 1) 82 s.vw.cs (0, 0) _ rfl (blk_two _ _ _ _) Try.underlying82 rfl (by kernel_rfl)) rfl ?_
  exact ⟨rfl, (below_alloc w _).alloc (by simp) _⟩
theorem run_str_eql (a b : ByteArray) (w : World) : (binOp .eql 9 (.string a) (.string b)).run Try.prog w = .ok (.bool (a.toList == b.toList)) w := by kernel_rfl
theorem run_str_leq (a b : ByteArray) (w : World) : (binOp .leq 9 (.string a) (.string b)).run Try.prog w = .ok (.bool (Op.bytesLess a.toList b.toList || a.toList == b.toList)) w := by kernel_rfl
theorem run_link_eql (a b : ByteArray) (p q r s : Int) (w : World) : (binOp .eql 34 (.agg #[.string a, .int .i64 p, .int .i64 q]) (.agg #[.string b, .int .i64 r, .int .i64 s])).run Try.prog w = .ok (.bool ((a.toList == b.toList) && decide (p = r) && decide (q = s))) w := by
  go_simp
  by_cases h1 : a.toList = b.toList <;> by_cases h2 : p = r <;> by_cases h3 : q = s <;> simp [h1, h2, h3]
theorem empty_str (bs : List Nat) (hb : ∀ b ∈ bs, b < 256) : ((strOf bs).toList == (ByteArray.mk #[]).toList) = bs.isEmpty := by
  have h : strOf [] = ByteArray.mk #[] := rfl
  rw [← h, str_eq hb (by simp), Bool.eq_iff_iff, decide_eq_true_iff, List.isEmpty_iff]
theorem empty_list (bs : List Nat) (hb : ∀ b ∈ bs, b < 256) : (strOf bs).toList.isEmpty = bs.isEmpty := by
  rw [← empty_str bs hb]
  have : (ByteArray.mk #[]).toList = [] := by rw [ByteArray.toList_eq]
  rw [this]
  cases (strOf bs).toList <;> rfl
set_option maxHeartbeats 4000000 in
theorem linked_any (v : VA) (w : World) (h : v.R w) (hS : v.Sm) : Calls Try.prog 94 #[.agg v.cs] w fun e w' => e = .returned (.bool (v.lk.B v.size)) ∧ Below w.heap.size w w' := by
  have he := empty_list v.par h.par
  have B0 := fun (o : Obj) => below_alloc w o
  unfold VA.cs LkV.B
  show Calls _ _ _ _ fun e w' => e = .returned (.bool (if v.par.isEmpty then decide (v.ps = 0) && decide (v.ov = 0) else namedB v.par && decide (1 ≤ v.ps) && decide (0 ≤ v.ov) && decide (v.ov ≤ v.size))) ∧ _
  cases hem : v.par.isEmpty with
  | true =>
    rw [hem] at he
    have he2 : (strOf v.par).toList = [] := List.isEmpty_iff.1 he
    rw [if_pos rfl]
    clear h hem hS
    by_cases c1 : v.ps = 0
    · have d1 : decide (v.ps = 0) = true := decide_eq_true c1
      by_cases c2 : v.ov = 0
      · have d2 : decide (v.ov = 0) = true := decide_eq_true c2
        rw [d1, d2]
        go_enter Try.func94, Try.ntmps94
        go_wp2
        go_ret
        exact ⟨rfl, B0 _⟩
      · have d2 : decide (v.ov = 0) = false := decide_eq_false c2
        rw [d1, d2]
        go_enter Try.func94, Try.ntmps94
        go_wp2
        go_ret
        exact ⟨rfl, B0 _⟩
    · have d1 : decide (v.ps = 0) = false := decide_eq_false c1
      rw [d1, Bool.false_and]
      go_enter Try.func94, Try.ntmps94
      go_wp2
      go_ret
      exact ⟨rfl, B0 _⟩
  | false =>
    rw [hem] at he
    rw [if_neg (by simp)]
    have HN := Lib.hid (named_any v.par h.par hS.par)
    clear h hS hem
    cases hn : namedB v.par with
    | false =>
      rw [hn] at HN
      clear hn
      go_enter Try.func94, Try.ntmps94
      go_wp2_with fail
      refine (HN.out _).mono ?_
      rintro e w1 ⟨rfl, b1⟩
      go_wp2
      go_ret
      exact ⟨rfl, (B0 _).trans (b1.mono (B0 _).size)⟩
    | true =>
      rw [hn] at HN
      clear hn
      rw [Bool.true_and]
      go_enter Try.func94, Try.ntmps94
      go_wp2_with fail
      refine (HN.out _).mono ?_
      rintro e w1 ⟨rfl, b1⟩
      have k : Blk w1 w.heap.size 82 v.cs := (Blk.new w 82 v.cs).of (b1.block _ (by simp))
      unfold VA.cs at k
      have k1 : w1.cell? ⟨w.heap.size, 0, none⟩ = some (.int .i64 v.size) := k.cell 0
      have k5 : w1.cell? ⟨w.heap.size, 5, none⟩ = some (.int .i64 v.ps) := k.cell 5
      have k6 : w1.cell? ⟨w.heap.size, 6, none⟩ = some (.int .i64 v.ov) := k.cell 6
      have HB : Hid (Below w.heap.size w w1) := Lib.hid ((B0 _).trans (b1.mono (B0 _).size))
      clear b1 k HN B0
      by_cases c1 : 1 ≤ v.ps
      · have d1 : decide (1 ≤ v.ps) = true := decide_eq_true c1
        by_cases c2 : 0 ≤ v.ov
        · have d2 : decide (0 ≤ v.ov) = true := decide_eq_true c2
          go_wp2
          go_ret
          exact ⟨by rw [d1, d2]; rfl, HB.out⟩
        · have d2 : decide (0 ≤ v.ov) = false := decide_eq_false c2
          go_wp2
          go_ret
          exact ⟨by rw [d1, d2]; rfl, HB.out⟩
      · have d1 : decide (1 ≤ v.ps) = false := decide_eq_false c1
        go_wp2
        go_ret
        exact ⟨by rw [d1]; rfl, HB.out⟩
theorem put_both (w : World) (A : Option Addr) (n c : Nat) (bs : List Nat) (hn : n ≤ 10000) (hb : Bytes w w.heap.size A n bs) :
    Calls Try.prog 89 #[.slice A n c] w fun e w' => Below w.heap.size w w' ∧ ((Good bs ∧ ∃ v, e = .returned (.tuple #[v, .nilIface]) ∧ Own w' w.heap.size v (putM bs).length (putM bs)) ∨ (¬ Good bs ∧ e = .returned (.tuple #[.slice none 0 0, errV 2]))) := by
  by_cases hg : Good bs
  · refine (put_ok A n c bs w hb hg).mono ?_
    rintro e w' ⟨rfl, k, b⟩
    have hl := hb.len
    have hp : (putM bs).length = 2 + (n + 3) / 4 := by rw [putM_len, hl]
    refine ⟨b, .inl ⟨hg, _, rfl, ?_⟩⟩
    rw [hp]
    refine ⟨by rw [u8s_length, hp]; omega, .inr ⟨w.heap.size, _, _, rfl, Nat.le_refl _, k, Nat.le_refl _, by simp only [maxLen]; omega, ?_, ?_⟩⟩
    · simp [u8s_length, hp]
    · rw [List.take_of_length_le (by simp [u8s_length, hp])]
  · refine (put_bad A n c _ bs w hn hb hg).mono ?_
    rintro e w' ⟨rfl, rfl⟩
    exact ⟨Below.refl _ _, .inr ⟨hg, rfl⟩⟩
set_option maxHeartbeats 4000000 in
theorem marked_any (v : VA) (obj : Int) (ho : I64 obj) (w : World) (h : v.R w) (hS : v.Sm) : Calls Try.prog 93 #[.agg v.cs, .int .i64 obj] w fun e w' => e = .returned (.bool (v.mk'.B (objsOf v.size obj))) ∧ Below w.heap.size w w' := by
  have B0 := fun (o : Obj) => below_alloc w o
  have hsz := h.size
  have hln : ((v.row.length : Int) == 0) = v.row.isEmpty := by rw [Bool.eq_iff_iff, beq_iff_eq, List.isEmpty_iff, ← List.length_eq_zero_iff]; omega
  unfold VA.cs MkV.B
  show Calls _ _ _ _ fun e w' => e = .returned (.bool (if v.on then decide (Good v.row) && decide ((v.row.length : Int) = objsOf v.size obj) else v.row.isEmpty && !v.good)) ∧ _
  cases hon : v.on with
  | false =>
    rw [if_neg (by simp)]
    cases hem : v.row.isEmpty with
    | false =>
      rw [hem] at hln
      clear h
      go_enter Try.func93, Try.ntmps93
      go_wp2
      go_ret
      exact ⟨rfl, B0 _⟩
    | true =>
      rw [hem] at hln
      clear h
      go_enter Try.func93, Try.ntmps93
      go_wp2
      go_ret
      exact ⟨rfl, B0 _⟩
  | true =>
    rw [if_pos rfl]
    have hb : Bytes (w.alloc (.cells v.cs 82)) (w.alloc (.cells v.cs 82)).heap.size v.M v.row.length v.row := (h.row.since (below_alloc w _)).more (by simp)
    have HP := Lib.hid (put_both (w.alloc (.cells v.cs 82)) v.M v.row.length v.cm v.row hS.row hb)
    have hK := Blk.new w 82 v.cs
    have HK := Lib.hid hK
    unfold VA.cs at HP HK
    rw [hon] at HP HK
    clear h hb hK hln
    go_enter Try.func93, Try.ntmps93
    go_wp2_with fail
    refine HP.out.mono ?_
    rintro e w1 ⟨b1, ⟨hg, p, rfl, hp⟩ | ⟨hg, rfl⟩⟩
    · have d1 : decide (Good v.row) = true := decide_eq_true hg
      have k := HK.out.of (b1.block _ HK.out.lt)
      have HB : Hid (Below w.heap.size w w1) := Lib.hid ((B0 _).trans (b1.mono (B0 _).size))
      have k0 : w1.cell? ⟨w.heap.size, 0, none⟩ = some (.int .i64 v.size) := k.cell 0
      have k3 : w1.cell? ⟨w.heap.size, 3, none⟩ = some (.slice v.M v.row.length v.cm) := k.cell 3
      have HO := Lib.hid (objects_any v.size obj hsz ho)
      have hq : ((v.row.length : Int) == objsOf v.size obj) = decide ((v.row.length : Int) = objsOf v.size obj) := by rw [Bool.eq_iff_iff, beq_iff_eq, decide_eq_true_iff]
      obtain ⟨bb, hbb⟩ : ∃ bb, bb = decide ((v.row.length : Int) = objsOf v.size obj) := ⟨_, rfl⟩
      rw [← hbb] at hq
      have HBB := Lib.hid hbb
      clear b1 k hp HP HK B0 hbb
      go_wp2
      go_quiet ((go_at_call 32; exact Calls.quiet_of_same ((HO.out _).mono fun e w' h => ⟨h.1, h.2.symm⟩)))
      go_wp2
      go_ret
      exact ⟨by rw [d1, ← HBB.out]; rfl, below_drewN HB.out _⟩
    · have d1 : decide (Good v.row) = false := decide_eq_false hg
      have HB : Hid (Below w.heap.size w w1) := Lib.hid ((B0 _).trans (b1.mono (B0 _).size))
      clear b1 HP HK B0
      simp only [errV]
      go_wp2
      go_quiet (fail)
      go_wp2
      go_ret
      exact ⟨by rw [d1]; rfl, below_drewN HB.out _⟩
end Go.Proofs.Ytgddenhnpjoabaa

/-
  Good views, a snapshot's children. Conditions: they read as they are said to.
-/
namespace Go.Proofs.Ytgddenhnpjoabaa
open Go.RowKit Go.BigFrame
set_option linter.unusedSimpArgs false
set_option linter.unusedVariables false
set_option maxRecDepth 100000
set_option maxHeartbeats 4000000 in
theorem vgood_any (v : VA) (obj : Int) (ho : I64 obj) (w : World) (h : v.R w) (hS : v.Sm) : Calls Try.prog 45 #[.agg v.cs, .int .i64 obj] w fun e w' => e = .returned (.bool (viewB v.size obj v.mk' v.lk)) ∧ Below w.heap.size w w' := by
  have B0 := Lib.hid (below_alloc w (.cells v.cs 82))
  have HK := Lib.hid (Blk.new w 82 v.cs)
  have HM := Lib.hid (marked_any v obj ho (w.alloc (.cells v.cs 82)) (h.since B0.out) hS)
  have HL : Hid (∀ w1, Below w.heap.size w w1 → Calls Try.prog 94 #[.agg v.cs] w1 fun e w' => e = .returned (.bool (v.lk.B v.size)) ∧ Below w1.heap.size w1 w') := Lib.hid fun w1 hb => linked_any v w1 (h.since hb) hS
  unfold viewB
  obtain ⟨bm, hbm⟩ : ∃ bm, bm = v.mk'.B (objsOf v.size obj) := ⟨_, rfl⟩
  obtain ⟨bl, hbl⟩ : ∃ bl, bl = v.lk.B v.size := ⟨_, rfl⟩
  rw [← hbm] at HM ⊢
  rw [← hbl] at HL ⊢
  clear h hS hbm hbl
  unfold VA.cs at *
  by_cases c1 : 0 ≤ v.size
  · have d1 : decide (0 ≤ v.size) = true := decide_eq_true c1
    by_cases c2 : v.size ≤ 4096
    · have d2 : decide (v.size ≤ 4096) = true := decide_eq_true c2
      rw [d1, d2, Bool.true_and, Bool.true_and]
      go_enter Try.func45, Try.ntmps45
      go_wp2_with fail
      refine HM.out.mono ?_
      rintro e w1 ⟨rfl, b1⟩
      have k := HK.out.of (b1.block _ HK.out.lt)
      have k0 : w1.cell? ⟨w.heap.size, 0, none⟩ = some (.int .i64 v.size) := k.cell 0
      have k1 : w1.cell? ⟨w.heap.size, 1, none⟩ = some (.bool v.on) := k.cell 1
      have k2 : w1.cell? ⟨w.heap.size, 2, none⟩ = some (.bool v.good) := k.cell 2
      have k3 : w1.cell? ⟨w.heap.size, 3, none⟩ = some (.slice v.M v.row.length v.cm) := k.cell 3
      have k4 : w1.cell? ⟨w.heap.size, 4, none⟩ = some (.string (strOf v.par)) := k.cell 4
      have k5 : w1.cell? ⟨w.heap.size, 5, none⟩ = some (.int .i64 v.ps) := k.cell 5
      have k6 : w1.cell? ⟨w.heap.size, 6, none⟩ = some (.int .i64 v.ov) := k.cell 6
      have HB : Hid (Below w.heap.size w w1) := Lib.hid (B0.out.trans (b1.mono B0.out.size))
      clear b1 k HM B0 HK
      cases bm with
      | false =>
        go_wp2
        go_ret
        exact ⟨rfl, HB.out⟩
      | true =>
        go_wp2_with fail
        refine (HL.out _ HB.out).mono ?_
        rintro e w2 ⟨rfl, b2⟩
        go_wp2
        go_ret
        exact ⟨by cases bl <;> rfl, HB.out.trans (b2.mono HB.out.size)⟩
    · have d2 : decide (v.size ≤ 4096) = false := decide_eq_false c2
      rw [d1, d2]
      go_enter Try.func45, Try.ntmps45
      go_wp2
      go_ret
      exact ⟨rfl, B0.out⟩
  · have d1 : decide (0 ≤ v.size) = false := decide_eq_false c1
    rw [d1]
    go_enter Try.func45, Try.ntmps45
    go_wp2
    go_ret
    exact ⟨rfl, B0.out⟩
theorem less_total : ∀ x y : List UInt8, (Op.bytesLess x y || x == y) = !Op.bytesLess y x
  | [], [] => rfl
  | [], _ :: _ => rfl
  | _ :: _, [] => rfl
  | a :: x, b :: y => by
    have ih := less_total x y
    simp only [Op.bytesLess]
    rcases Nat.lt_trichotomy a.toNat b.toNat with h | h | h
    · have h1 : a < b := h
      have h2 : ¬ b < a := fun h' => by have := UInt8.lt_iff_toNat_lt.1 h'; omega
      have h3 : (b == a) = false := by rw [beq_eq_false_iff_ne]; rintro rfl; omega
      simp [h1, h2, h3]
    · obtain rfl : a = b := UInt8.toNat_inj.1 h
      have h2 : ¬ a < a := fun h' => by have := UInt8.lt_iff_toNat_lt.1 h'; omega
      simp only [h2, decide_false, Bool.false_or, beq_self_eq_true, Bool.true_and]
      rw [← ih]
      simp
    · have h1 : b < a := h
      have h2 : ¬ a < b := fun h' => by have := UInt8.lt_iff_toNat_lt.1 h'; omega
      have h3 : (a == b) = false := by rw [beq_eq_false_iff_ne]; rintro rfl; omega
      simp [h1, h2, h3]
theorem le_lt_str (c l : List Nat) : (Op.bytesLess (strOf c).toList (strOf l).toList || (strOf c).toList == (strOf l).toList) = !ltS l c := less_total _ _
set_option maxHeartbeats 4000000 in
theorem chgood_any (s : SA) (w : World) (h : s.R w) (hS : s.Sm) : Calls Try.prog 96 #[.agg s.cells.toArray] w fun e w' => e = .returned (.bool s.v.chB) ∧ Below w.heap.size w w' := by
  have B0 := Lib.hid (below_alloc w (.cells s.cells.toArray 66))
  have HK := Lib.hid (Blk.new w 66 s.cells.toArray)
  have HCH := Lib.hid h.ch
  have HCL := Lib.hid hS.cl
  have hn := hS.ch
  have hv : s.v.chB = (upB [] s.ch && (s.prot || s.ch.isEmpty)) := rfl
  rw [hv]
  clear h hS hv
  unfold SA.cells at *
  go_enter Try.func96, Try.ntmps96
  go_upto_region 2 with (fail)
  have hempty : (Value.string { data := #[] }) = .string (strOf []) := rfl
  rw [hempty]
  clear hempty
  have k10' : (w.alloc (.cells s.cells.toArray 66)).cell? ⟨w.heap.size, 10, none⟩ = some (.slice s.C s.ch.length s.cc) := HK.out.cell 10
  unfold SA.cells at k10'
  generalize hw0 : w.alloc _ = w0 at *
  go_wp2
  go_loopw [3, 9] (fun lv i wr => ∃ (k : Nat) (last : List Nat), k ≤ s.ch.length ∧ i = .int .i64 k ∧ lv = .string (strOf last) ∧ upB [] s.ch = upB last (s.ch.drop k) ∧ Below w0.heap.size w0 wr) (fun _ i _ => s.ch.length - (intOf i).toNat)
  case atStart => exact ⟨0, [], by omega, rfl, rfl, by rw [List.drop_zero], Below.refl _ _⟩
  case round =>
    obtain ⟨k, last, hk, rfl, rfl, hup, hb⟩ := hrel
    have HB := Lib.hid (B0.out.trans (hb.mono B0.out.size))
    have KR := HK.out.of (hb.block _ HK.out.lt)
    have k5 : wr.cell? ⟨w.heap.size, 5, none⟩ = some (.bool s.prot) := KR.cell 5
    have k10 : wr.cell? ⟨w.heap.size, 10, none⟩ = some (.slice s.C s.ch.length s.cc) := KR.cell 10
    have HUP := Lib.hid hup
    have HB2 := Lib.hid hb
    have hwk : IntKind.i64.wrap ((k : Int) + 1) = (k : Int) + 1 := by rw [IntKind.wrap_i64]; omega
    clear hup hb KR
    by_cases hlt : k < s.ch.length
    · obtain ⟨ad, c, had, hck, hc2, hcell⟩ := (HCH.out.since HB.out).at_ hlt
      have hd : s.ch.drop k = c :: s.ch.drop (k + 1) := by
        rw [List.drop_eq_getElem_cons hlt]
        congr 1
        rw [List.getElem?_eq_getElem hlt] at hck
        injection hck
      have HN := Lib.hid (named_any c hc2 (HCL.out c (List.mem_of_getElem? hck)))
      rw [hd, upB] at HUP
      have hle := le_lt_str c last
      clear hd hck
      generalize s.C = sC at *
      subst had
      go_wp2_with fail
      refine (HN.out _).mono ?_
      rintro e w1 ⟨rfl, b1⟩
      cases hnm : namedB c with
      | false =>
        rw [hnm] at HUP
        go_wp2
        go_ret
        exact ⟨by rw [HUP.out]; rfl, HB.out.trans (b1.mono HB.out.size)⟩
      | true =>
        rw [hnm] at HUP
        cases hl : ltS last c with
        | false =>
          rw [hl] at HUP hle
          clear hl hnm
          go_wp2
          go_ret
          exact ⟨by rw [HUP.out]; rfl, HB.out.trans (b1.mono HB.out.size)⟩
        | true =>
          rw [hl] at HUP hle
          clear hl hnm
          go_wp2
          go_roundw
          case rel => exact ⟨k + 1, c, by omega, by go_num, rfl, by rw [HUP.out]; rfl, HB2.out.trans (b1.mono HB2.out.size)⟩
          case measure => simp [intOf]; omega
    · obtain rfl : k = s.ch.length := by omega
      have hu : upB [] s.ch = true := by rw [HUP.out, List.drop_length]; rfl
      have hln : ((s.ch.length : Int) == 0) = s.ch.isEmpty := by rw [Bool.eq_iff_iff, beq_iff_eq, List.isEmpty_iff, ← List.length_eq_zero_iff]; omega
      have HU := Lib.hid hu
      clear hu
      cases hp : s.prot with
      | false =>
        rw [hp] at k5
        go_wp2
        go_ret
        exact ⟨by rw [HU.out, hp]; rfl, HB.out⟩
      | true =>
        rw [hp] at k5
        go_wp2
        go_ret
        exact ⟨by rw [HU.out, hp]; rfl, HB.out⟩
end Go.Proofs.Ytgddenhnpjoabaa

/-
  Where a snapshot stands. Conditions: the head reads as it is said to.
-/
namespace Go.Proofs.Ytgddenhnpjoabaa
open Go.RowKit Go.BigFrame
set_option linter.unusedSimpArgs false
set_option linter.unusedVariables false
set_option maxRecDepth 100000
/-- where the first one stands; -1: nowhere -/
def idxI {α : Type} (p : α → Bool) : List α → Int
  | [] => -1
  | x :: r => if p x then 0 else if idxI p r < 0 then -1 else idxI p r + 1
theorem idx_skip {α : Type} (p : α → Bool) : ∀ (l : List α) (k : Nat), k ≤ l.length → (∀ (j : Nat) (x : α), j < k → l[j]? = some x → p x = false) → ∀ x, l[k]? = some x → p x = true → idxI p l = k
  | [], k, _, _, x, h, _ => by simp at h
  | y :: l, 0, _, _, x, h, hp => by
    simp at h
    subst h
    rw [idxI, if_pos hp]
    rfl
  | y :: l, k + 1, hk, hn, x, h, hp => by
    have h0 := hn 0 y (by omega) rfl
    have ih := idx_skip p l k (by simpa using hk) (fun j z hj hz => hn (j + 1) z (by omega) (by simpa using hz)) x (by simpa using h) hp
    rw [idxI, if_neg (by rw [h0]; simp), ih, if_neg (by omega)]
    push_cast
    rfl
theorem idx_none {α : Type} (p : α → Bool) : ∀ (l : List α), (∀ (j : Nat) (x : α), l[j]? = some x → p x = false) → idxI p l = -1
  | [], _ => rfl
  | y :: l, hn => by
    have h0 := hn 0 y rfl
    have ih := idx_none p l (fun j z hz => hn (j + 1) z (by simpa using hz))
    rw [idxI, if_neg (by rw [h0]; simp), ih, if_pos (by omega)]
theorem idx_any {α : Type} (p : α → Bool) (l : List α) : decide (0 ≤ idxI p l) = l.any p := by
  induction l with
  | nil => rfl
  | cons y l ih =>
    rw [idxI, List.any_cons]
    cases hp : p y with
    | true => rfl
    | false =>
      rw [if_neg (by simp), Bool.false_or, ← ih]
      split
      · rename_i h; rw [decide_eq_false (by omega), decide_eq_false (by omega)]
      · rename_i h; rw [decide_eq_true (by omega), decide_eq_true (by omega)]
theorem num1_any (s : SA) (n : Int) (g : Nat) (w : World) (hg : w.cell? ⟨g, 0, none⟩ = some (.int .i64 n)) :
    Calls Try.prog 83 #[.agg s.cells.toArray, .pointer (some ⟨g, 0, none⟩)] w fun e w' => e = .returned (.bool (s.num == n)) ∧ Below w.heap.size w w' := by
  have B0 := Lib.hid (below_alloc w (.cells s.cells.toArray 66))
  have hg2 := (B0.out.cell (World.block_lt_of_cell? w _ hg)).trans hg
  unfold SA.cells at *
  go_enter Try.func83, Try.ntmps83
  go_wp2
  go_ret
  exact ⟨rfl, B0.out⟩
theorem snap1_any (s : SA) (bs : List Nat) (g : Nat) (w : World) (hs : ∀ b ∈ s.name, b < 256) (hb : ∀ b ∈ bs, b < 256) (hg : w.cell? ⟨g, 0, none⟩ = some (.string (strOf bs))) :
    Calls Try.prog 150 #[.agg s.cells.toArray, .pointer (some ⟨g, 0, none⟩)] w fun e w' => e = .returned (.bool (decide (s.name = bs))) ∧ Below w.heap.size w w' := by
  have B0 := Lib.hid (below_alloc w (.cells s.cells.toArray 66))
  have hg2 := (B0.out.cell (World.block_lt_of_cell? w _ hg)).trans hg
  have he := str_eq hs hb
  unfold SA.cells at *
  cases hd : decide (s.name = bs) with
  | true =>
    rw [hd] at he
    go_enter Try.func150, Try.ntmps150
    go_wp2
    go_ret
    exact ⟨rfl, B0.out⟩
  | false =>
    rw [hd] at he
    go_enter Try.func150, Try.ntmps150
    go_wp2
    go_ret
    exact ⟨rfl, B0.out⟩
set_option maxHeartbeats 4000000 in
theorem index_num (g c : Nat) (u : Value) (p : SA → Bool) (l : List SA) (A : Option Addr) (w : World) (hl : l.length ≤ 1000000) (hr : Reads w w.heap.size 11 A l.length (l.flatMap SA.cells)) (hg : w.cell? ⟨g, 0, none⟩ = some u)
    (hf : ∀ s ∈ l, ∀ w1, w1.cell? ⟨g, 0, none⟩ = some u → Calls Try.prog 83 #[.agg s.cells.toArray, .pointer (some ⟨g, 0, none⟩)] w1 fun e w' => e = .returned (.bool (p s)) ∧ Below w1.heap.size w1 w') :
    Calls Try.prog 82 #[.slice A l.length c, .func (.func 83) #[] #[.pointer (some ⟨g, 0, none⟩)]] w fun e w' => e = .returned (.int .i64 (idxI p l)) ∧ Below w.heap.size w w' := by
  have H := Lib.hid hr
  have HG := Lib.hid hg
  have HF := Lib.hid hf
  clear hr hg hf
  go_enter Try.func82, Try.ntmps82
  go_wp2
  go_loopw [5, 8] (fun _ i wr => ∃ k : Nat, k ≤ l.length ∧ i = .int .i64 k ∧ Below w.heap.size w wr ∧ ∀ j s, j < k → l[j]? = some s → p s = false) (fun _ i _ => l.length - (intOf i).toNat)
  case atStart => exact ⟨0, by omega, rfl, Below.refl _ _, fun j s h => by omega⟩
  case round =>
    obtain ⟨k, hk, rfl, hb, hall⟩ := hrel
    have HA := Lib.hid hall
    have HB := Lib.hid hb
    have hwk : IntKind.i64.wrap ((k : Int) + 1) = (k : Int) + 1 := by rw [IntKind.wrap_i64]; omega
    clear hall hb
    by_cases hlt : k < l.length
    · obtain ⟨s, hs⟩ : ∃ s, l[k]? = some s := ⟨_, List.getElem?_eq_getElem hlt⟩
      obtain ⟨ad, had, -, hc⟩ := snap_at SA.cells_len (H.out.since HB.out) hs
      have HS := Lib.hid hs
      have HC := Lib.hid (HF.out s (List.mem_of_getElem? hs) wr ((HB.out.cell (World.block_lt_of_cell? w _ HG.out)).trans HG.out))
      subst had
      clear hs
      go_wp2_with (have _h := hc; refine wpList_loadp rfl 66 (.tmp 14) rfl _ s.cells _ rfl hc Try.underlying66 rfl (by kernel_rfl) ?_; clear _h hc)
      refine HC.out.mono ?_
      rintro e w1 ⟨rfl, b1⟩
      have HB1 := Lib.hid (HB.out.trans (b1.mono HB.out.size))
      clear b1 HC
      cases hp : p s with
      | true =>
        have HI := Lib.hid (idx_skip p l k hk HA.out s HS.out hp)
        clear hp
        go_wp2
        go_ret
        exact ⟨by rw [HI.out]; rfl, HB1.out⟩
      | false =>
        have HP := Lib.hid hp
        clear hp
        go_wp2
        go_roundw
        case rel => exact ⟨k + 1, by omega, by go_num, HB1.out, fun j x hj hx => by
          rcases Nat.lt_succ_iff_lt_or_eq.1 hj with h | rfl
          · exact HA.out j x h hx
          · rw [HS.out] at hx; injection hx with hx; subst hx; exact HP.out⟩
        case measure => simp [intOf]; omega
    · obtain rfl : k = l.length := by omega
      have HI := Lib.hid (idx_none p l fun j x hx => HA.out j x (List.getElem?_eq_some_iff.1 hx).1 hx)
      go_wp2
      go_ret
      exact ⟨by rw [HI.out]; rfl, HB.out⟩
set_option maxHeartbeats 4000000 in
theorem index_str (g c : Nat) (u : Value) (p : SA → Bool) (l : List SA) (A : Option Addr) (w : World) (hl : l.length ≤ 1000000) (hr : Reads w w.heap.size 11 A l.length (l.flatMap SA.cells)) (hg : w.cell? ⟨g, 0, none⟩ = some u)
    (hf : ∀ s ∈ l, ∀ w1, w1.cell? ⟨g, 0, none⟩ = some u → Calls Try.prog 150 #[.agg s.cells.toArray, .pointer (some ⟨g, 0, none⟩)] w1 fun e w' => e = .returned (.bool (p s)) ∧ Below w1.heap.size w1 w') :
    Calls Try.prog 82 #[.slice A l.length c, .func (.func 150) #[] #[.pointer (some ⟨g, 0, none⟩)]] w fun e w' => e = .returned (.int .i64 (idxI p l)) ∧ Below w.heap.size w w' := by
  have H := Lib.hid hr
  have HG := Lib.hid hg
  have HF := Lib.hid hf
  clear hr hg hf
  go_enter Try.func82, Try.ntmps82
  go_wp2
  go_loopw [5, 8] (fun _ i wr => ∃ k : Nat, k ≤ l.length ∧ i = .int .i64 k ∧ Below w.heap.size w wr ∧ ∀ j s, j < k → l[j]? = some s → p s = false) (fun _ i _ => l.length - (intOf i).toNat)
  case atStart => exact ⟨0, by omega, rfl, Below.refl _ _, fun j s h => by omega⟩
  case round =>
    obtain ⟨k, hk, rfl, hb, hall⟩ := hrel
    have HA := Lib.hid hall
    have HB := Lib.hid hb
    have hwk : IntKind.i64.wrap ((k : Int) + 1) = (k : Int) + 1 := by rw [IntKind.wrap_i64]; omega
    clear hall hb
    by_cases hlt : k < l.length
    · obtain ⟨s, hs⟩ : ∃ s, l[k]? = some s := ⟨_, List.getElem?_eq_getElem hlt⟩
      obtain ⟨ad, had, -, hc⟩ := snap_at SA.cells_len (H.out.since HB.out) hs
      have HS := Lib.hid hs
      have HC := Lib.hid (HF.out s (List.mem_of_getElem? hs) wr ((HB.out.cell (World.block_lt_of_cell? w _ HG.out)).trans HG.out))
      subst had
      clear hs
      go_wp2_with (have _h := hc; refine wpList_loadp rfl 66 (.tmp 14) rfl _ s.cells _ rfl hc Try.underlying66 rfl (by kernel_rfl) ?_; clear _h hc)
      refine HC.out.mono ?_
      rintro e w1 ⟨rfl, b1⟩
      have HB1 := Lib.hid (HB.out.trans (b1.mono HB.out.size))
      clear b1 HC
      cases hp : p s with
      | true =>
        have HI := Lib.hid (idx_skip p l k hk HA.out s HS.out hp)
        clear hp
        go_wp2
        go_ret
        exact ⟨by rw [HI.out]; rfl, HB1.out⟩
      | false =>
        have HP := Lib.hid hp
        clear hp
        go_wp2
        go_roundw
        case rel => exact ⟨k + 1, by omega, by go_num, HB1.out, fun j x hj hx => by
          rcases Nat.lt_succ_iff_lt_or_eq.1 hj with h | rfl
          · exact HA.out j x h hx
          · rw [HS.out] at hx; injection hx with hx; subst hx; exact HP.out⟩
        case measure => simp [intOf]; omega
    · obtain rfl : k = l.length := by omega
      have HI := Lib.hid (idx_none p l fun j x hx => HA.out j x (List.getElem?_eq_some_iff.1 hx).1 hx)
      go_wp2
      go_ret
      exact ⟨by rw [HI.out]; rfl, HB.out⟩
theorem number_any (h : HA) (n : Int) (w : World) (hR : h.R SA.cells w) (hl : h.sn.length ≤ 1000000) :
    Calls Try.prog 30 #[.agg h.cs, .int .i64 n] w fun e w' => e = .returned (.int .i64 (idxI (fun s : SA => s.num == n) h.sn)) ∧ Below w.heap.size w w' := by
  have B0 := Lib.hid ((below_alloc w (.cells h.cs 36)).alloc (by simp) (.cells #[.int .i64 n] 3))
  have hrow := (hR.row.since B0.out).more B0.out.size
  have HI := Lib.hid (index_num (w.heap.size + 1) h.cs' (.int .i64 n) (fun s => s.num == n) h.sn h.S _ hl hrow ((blk_two w (.cells h.cs 36) 3 #[.int .i64 n]).cell 0) (fun s hs w1 hg => num1_any s n _ w1 hg))
  clear hR hrow
  unfold HA.cs at *
  go_enter Try.func30, Try.ntmps30
  go_wp2_with fail
  refine HI.out.mono ?_
  rintro e w1 ⟨rfl, b1⟩
  go_wp2
  go_ret
  exact ⟨rfl, B0.out.trans (b1.mono B0.out.size)⟩
theorem find_any (h : HA) (bs : List Nat) (hb : ∀ b ∈ bs, b < 256) (w : World) (hR : h.R SA.cells w) (hl : h.sn.length ≤ 1000000) :
    Calls Try.prog 114 #[.agg h.cs, .string (strOf bs)] w fun e w' => e = .returned (.int .i64 (idxI (fun s : SA => decide (s.name = bs)) h.sn)) ∧ Below w.heap.size w w' := by
  have B0 := Lib.hid ((below_alloc w (.cells h.cs 36)).alloc (by simp) (.cells #[.string (strOf bs)] 9))
  have hrow := (hR.row.since B0.out).more B0.out.size
  have HI := Lib.hid (index_str (w.heap.size + 1) h.cs' (.string (strOf bs)) (fun s => decide (s.name = bs)) h.sn h.S _ hl hrow ((blk_two w (.cells h.cs 36) 9 #[.string (strOf bs)]).cell 0) (fun s hs w1 hg => snap1_any s bs _ w1 (hR.sn s hs).name hb hg))
  clear hR hrow
  unfold HA.cs at *
  go_enter Try.func114, Try.ntmps114
  go_wp2_with fail
  refine HI.out.mono ?_
  rintro e w1 ⟨rfl, b1⟩
  go_wp2
  go_ret
  exact ⟨rfl, B0.out.trans (b1.mono B0.out.size)⟩
theorem any_map {α β : Type} (f : α → β) (p : β → Bool) (l : List α) : (l.map f).any p = l.any fun x => p (f x) := by rw [List.any_map]; rfl
set_option maxHeartbeats 4000000 in
theorem intent_any (h : HA) (w : World) (hR : h.R SA.cells w) (hl : h.sn.length ≤ 1000000) :
    Calls Try.prog 47 #[.agg h.cs] w fun e w' => e = .returned (.bool h.v.itB) ∧ Below w.heap.size w w' := by
  have B0 := Lib.hid (below_alloc w (.cells h.cs 36))
  have HN := Lib.hid (number_any h h.tg _ (hR.since B0.out) hl)
  have hv : h.v.itB = (if h.it = 1 then decide (0 ≤ h.tg) && decide (h.tg ≤ 4096) else if h.it = 2 ∨ h.it = 3 then h.sn.any (fun s => s.num == h.tg) else if h.it = 0 ∨ h.it = 4 ∨ h.it = 5 then decide (h.tg = 0) else false) := by
    have := any_map SA.v (fun s : SnV => s.num == h.tg) h.sn
    have e : (h.sn.any fun s => s.num == h.tg) = h.sn.any fun x => x.v.num == h.tg := rfl
    rw [e, ← this]
    rfl
  have hq : (h.tg == 0) = decide (h.tg = 0) := by rw [Bool.eq_iff_iff, beq_iff_eq, decide_eq_true_iff]
  rw [hv]
  clear hv hR
  unfold HA.cs at *
  by_cases a0 : h.it = 0
  · have e0 : (h.it == 0) = true := by simpa using a0
    rw [if_neg (by omega), if_neg (by omega), if_pos (by omega), ← hq]
    clear hq a0
    go_enter Try.func47, Try.ntmps47
    go_wp2
    go_ret
    exact ⟨rfl, B0.out⟩
  have e0 : (h.it == 0) = false := by simpa using a0
  by_cases a4 : h.it = 4
  · have e4 : (h.it == 4) = true := by simpa using a4
    rw [if_neg (by omega), if_neg (by omega), if_pos (by omega), ← hq]
    clear hq a4 a0
    go_enter Try.func47, Try.ntmps47
    go_wp2
    go_ret
    exact ⟨rfl, B0.out⟩
  have e4 : (h.it == 4) = false := by simpa using a4
  by_cases a5 : h.it = 5
  · have e5 : (h.it == 5) = true := by simpa using a5
    rw [if_neg (by omega), if_neg (by omega), if_pos (by omega), ← hq]
    clear hq a5 a4 a0
    go_enter Try.func47, Try.ntmps47
    go_wp2
    go_ret
    exact ⟨rfl, B0.out⟩
  have e5 : (h.it == 5) = false := by simpa using a5
  by_cases a1 : h.it = 1
  · have e1 : (h.it == 1) = true := by simpa using a1
    rw [if_pos a1]
    clear hq a5 a4 a0 a1
    by_cases c1 : 0 ≤ h.tg
    · have d1 : decide (0 ≤ h.tg) = true := decide_eq_true c1
      go_enter Try.func47, Try.ntmps47
      go_wp2
      go_ret
      exact ⟨by first | rfl | (rw [d1]; rfl), B0.out⟩
    · have d1 : decide (0 ≤ h.tg) = false := decide_eq_false c1
      go_enter Try.func47, Try.ntmps47
      go_wp2
      go_ret
      exact ⟨by first | rfl | (rw [d1]; rfl), B0.out⟩
  have e1 : (h.it == 1) = false := by simpa using a1
  by_cases a2 : h.it = 2
  · have e2 : (h.it == 2) = true := by simpa using a2
    rw [if_neg (by omega), if_pos (by omega), ← idx_any]
    clear hq a5 a4 a0 a1 a2
    generalize idxI (fun s : SA => s.num == h.tg) h.sn = ix at *
    go_enter Try.func47, Try.ntmps47
    go_wp2_with fail
    refine HN.out.mono ?_
    rintro e w1 ⟨rfl, b1⟩
    go_wp2
    go_ret
    exact ⟨rfl, B0.out.trans (b1.mono B0.out.size)⟩
  have e2 : (h.it == 2) = false := by simpa using a2
  by_cases a3 : h.it = 3
  · have e3 : (h.it == 3) = true := by simpa using a3
    rw [if_neg (by omega), if_pos (by omega), ← idx_any]
    clear hq a5 a4 a0 a1 a2 a3
    generalize idxI (fun s : SA => s.num == h.tg) h.sn = ix at *
    go_enter Try.func47, Try.ntmps47
    go_wp2_with fail
    refine HN.out.mono ?_
    rintro e w1 ⟨rfl, b1⟩
    go_wp2
    go_ret
    exact ⟨rfl, B0.out.trans (b1.mono B0.out.size)⟩
  have e3 : (h.it == 3) = false := by simpa using a3
  rw [if_neg (by omega), if_neg (by omega), if_neg (by omega)]
  clear hq a5 a4 a0 a1 a2 a3
  go_enter Try.func47, Try.ntmps47
  go_wp2
  go_ret
  exact ⟨rfl, B0.out⟩
end Go.Proofs.Ytgddenhnpjoabaa

/-
  A map whose keys are strings, as a row of pairs that rises by its keys. No condition; nothing of the program is named.
-/
namespace Go.Proofs.Ytgddenhnpjoabaa
open Go.RowKit Go.ChangeMaps Go.WideElems Go.MapKept
set_option linter.unusedSimpArgs false
set_option linter.unusedVariables false
abbrev Key := List UInt8
abbrev KV := List (Key × Value)
def heldR (v : Value) : Option (DataW Value × List MemPlace) := some (.held v, [])
def encKV (p : Key × Value) : Lit × DataW Value := (.string p.1, .held p.2)
def keyV (k : Key) : Value := .string ⟨k.toArray⟩
def aget (l : KV) (k : Key) : Option Value := (l.find? fun p => p.1 == k).map (·.2)
def ains (x : Key × Value) : KV → KV
  | [] => [x]
  | y :: r => if bytesBefore x.1 y.1 then x :: y :: r else y :: ains x r
def adel (k : Key) (l : KV) : KV := l.filter fun p => !(p.1 == k)
def aput (k : Key) (v : Value) (l : KV) : KV := ains (k, v) (adel k l)
theorem ains_enc (x : Key × Value) : ∀ l : KV, (ains x l).map encKV = DataW.insert (encKV x) (l.map encKV)
  | [] => rfl
  | y :: r => by
    have ih := ains_enc x r
    simp only [ains, List.map_cons, DataW.insert]
    have e : (encKV x).1.before (encKV y).1 = bytesBefore x.1 y.1 := rfl
    rw [e]
    split
    · rfl
    · rw [List.map_cons, ih]
theorem adel_enc (k : Key) (l : KV) : (adel k l).map encKV = delKey (.string k) (l.map encKV) := by
  unfold adel delKey
  rw [List.filter_map]
  rfl
theorem aput_enc (k : Key) (v : Value) (l : KV) : (aput k v l).map encKV = putKey (.string k) (.held v) (l.map encKV) := by
  unfold aput
  rw [ains_enc, adel_enc]
  rfl
theorem aget_enc (l : KV) (k : Key) (zd : DataW Value) : (DataW.map (l.map encKV)).atKey (.string k) zd = match aget l k with | some v => .held v | none => zd := by
  simp only [DataW.atKey, aget]
  induction l with
  | nil => rfl
  | cons p l ih =>
    simp only [List.map_cons, List.find?_cons]
    have e : (encKV p).1.sameKey (.string k) = (p.1 == k) := rfl
    rw [e]
    cases h : p.1 == k
    · exact ih
    · rfl
/-- block b is a map that holds just these pairs -/
def SMap (P : Program) (kt : TypeId) (w : World) (b : Nat) (l : KV) : Prop := ∃ es clock, w.heap[b]? = some (.map es clock) ∧ Go.WideElems.Fit P kt heldR es clock ∧ (es.toList.map (rg P kt heldR)).foldr DataW.insert [] = l.map encKV
section
variable {P : Program} {kt t et : TypeId} {w w' : World} {b : Nat} {l : KV}
theorem SMap.of (h : SMap P kt w b l) (e : w'.heap[b]? = w.heap[b]?) : SMap P kt w' b l := by
  obtain ⟨es, c, h1, h2⟩ := h
  exact ⟨es, c, e.trans h1, h2⟩
theorem SMap.lt (h : SMap P kt w b l) : b < w.heap.size := by
  obtain ⟨es, c, h1, _⟩ := h
  exact (Array.getElem?_eq_some_iff.1 h1).1
theorem SMap.new (w : World) : SMap P kt (w.alloc (.map #[] 0)) w.heap.size [] := ⟨#[], 0, heap_alloc_new w _, ⟨by simp, stamped_empty 0, by simp⟩, rfl⟩
theorem SMap.size (h : SMap P kt w b l) : ∃ es clock, w.heap[b]? = some (.map es clock) ∧ es.size = l.length := by
  obtain ⟨es, c, h1, h2, h3⟩ := h
  refine ⟨es, c, h1, ?_⟩
  have := congrArg List.length h3
  rw [length_sorted] at this
  simpa using this
theorem SMap.ne_blk {t : TypeId} {cs : Array Value} {g' : Nat} (h : SMap P kt w b l) (hb : Blk w g' t cs) : b ≠ g' := by
  rintro rfl
  obtain ⟨es, c, h1, _⟩ := h
  unfold Blk at hb
  rw [hb] at h1
  cases h1
theorem SMap.owns (h : SMap P kt w b l) : w.ownsMap P kt heldR b l.length (.map (l.map encKV)) := by
  obtain ⟨es, c, h1, h2, h3⟩ := h
  refine ⟨es, c, h1, h2, ?_, by rw [h3]⟩
  have := congrArg List.length h3
  rw [length_sorted] at this
  simp at this
  omega
theorem key_of (hk : P.underlying kt = some .string) (k : Key) (hs : k.length ≤ maxLen) : keyOf P kt (keyV k) = some (.string k) := by
  simp [keyOf, mapKey, hk, keyV, hs]
  exact hs
theorem run_lookup_smap (hk : P.underlying kt = some .string) (ht : P.underlying t = some (.map kt et)) {z : Value} (hz : (zeroValue et).run P w = .ok z w) (h : SMap P kt w b l) (k : Key) (hs : k.length ≤ maxLen) :
    (Instr.lookup t (.map (some b)) (keyV k) false).run P w = .ok ((aget l k).getD z) w := by
  obtain ⟨es, c, h1, h2, h3⟩ := h
  have key := key_of hk k hs
  rcases fit_lookup (WideMaps.string_law hk) ht hz h1 h2 key with ⟨hr, ha⟩ | ⟨v, y, hr, hy, ha, _⟩
  · have := ha (.lit (.bool true))
    rw [h3, aget_enc] at this
    cases hg : aget l k with
    | none => simpa using hr
    | some v => rw [hg] at this; cases this
  · have := ha (.lit (.bool true))
    rw [h3, aget_enc] at this
    cases hg : aget l k with
    | none =>
      rw [hg] at this
      simp [heldR] at hy
      rw [← hy] at this
      cases this
    | some u =>
      rw [hg] at this
      simp [heldR] at hy
      rw [← hy] at this
      injection this with this
      subst this
      simpa using hr
theorem run_lookup_ok_smap (hk : P.underlying kt = some .string) (ht : P.underlying t = some (.map kt et)) {z : Value} (hz : (zeroValue et).run P w = .ok z w) (h : SMap P kt w b l) (k : Key) (hs : k.length ≤ maxLen) :
    (Instr.lookup t (.map (some b)) (keyV k) true).run P w = .ok (.tuple #[(aget l k).getD z, .bool (aget l k).isSome]) w := by
  obtain ⟨es, c, h1, h2, h3⟩ := h
  have key := key_of hk k hs
  rcases fit_lookup_ok (WideMaps.string_law hk) ht hz h1 h2 key with ⟨hr, ha⟩ | ⟨v, y, hr, hy, ha, _⟩
  · have := ha (.lit (.bool true))
    rw [h3, aget_enc] at this
    cases hg : aget l k with
    | none => simpa using hr
    | some v => rw [hg] at this; cases this
  · have := ha (.lit (.bool true))
    rw [h3, aget_enc] at this
    cases hg : aget l k with
    | none =>
      rw [hg] at this
      simp [heldR] at hy
      rw [← hy] at this
      cases this
    | some u =>
      rw [hg] at this
      simp [heldR] at hy
      rw [← hy] at this
      injection this with this
      subst this
      simpa using hr
theorem grown_setBlock {w : World} {b : Nat} {es : Array MapEntry} {c : Nat} {o' : Obj} (h : w.heap[b]? = some (.map es c)) : w.grownBy (setBlock w b o') (some b) ∧ (setBlock w b o').heap.size = w.heap.size :=
  ⟨⟨rfl, rfl, rfl, by simp [setBlock], fun i _ hi => heap_setBlock_other h _ (fun e => hi (by rw [e]))⟩, by simp [setBlock]⟩
theorem run_update_smap (hk : P.underlying kt = some .string) (ht : P.underlying t = some (.map kt et)) (h : SMap P kt w b l) (k : Key) (hs : k.length ≤ maxLen) (hroom : l.length < maxLen) (v : Value) :
    ∃ w', (Instr.mapUpdate t (.map (some b)) (keyV k) v).run P w = .ok () w' ∧ SMap P kt w' b (aput k v l) ∧ w.grownBy w' (some b) ∧ w'.heap.size = w.heap.size := by
  obtain ⟨es0, c0, h10, hsz⟩ := h.size
  obtain ⟨es, c, h1, h2, h3⟩ := h
  rw [h1] at h10
  injection h10 with h10
  injection h10 with h10 _
  subst h10
  obtain ⟨es', c', hr, hf, hl, _⟩ := fit_update (R' := heldR) (WideMaps.string_law hk) ht h1 h2 (by omega) (fun _ _ _ h => h) (key_of hk k hs) (val := v) (yv := (.held v, [])) rfl
  obtain ⟨hg, hz⟩ := grown_setBlock (o' := .map es' c') h1
  refine ⟨_, hr, ⟨es', c', heap_setBlock_same h1 _, hf, ?_⟩, hg, hz⟩
  rw [hl, h3, aput_enc]
theorem run_delete_smap {ty : TypeId} (hk : P.underlying kt = some .string) (ht : P.underlying t = some (.map kt et)) (h : SMap P kt w b l) (k : Key) (hs : k.length ≤ maxLen) :
    ∃ w', (Builtin.delete_ #[t, kt] ty #[.map (some b), keyV k]).run P w = .ok (.tuple #[]) w' ∧ SMap P kt w' b (adel k l) ∧ w.grownBy w' (some b) ∧ w'.heap.size = w.heap.size := by
  obtain ⟨es, c, h1, h2, h3⟩ := h
  obtain ⟨es', hr, hf, hl, _⟩ := fit_delete (R' := heldR) (ty := ty) (WideMaps.string_law hk) ht h1 h2 (fun _ _ _ h => h) (key_of hk k hs)
  obtain ⟨hg, hz⟩ := grown_setBlock (o' := .map es' c) h1
  refine ⟨_, hr, ⟨es', c, heap_setBlock_same h1 _, hf, ?_⟩, hg, hz⟩
  rw [hl, h3, adel_enc]
end
end Go.Proofs.Ytgddenhnpjoabaa

/-
  A map's keys: as many as there are names, if none stands twice. No condition.
-/
namespace Go.Proofs.Ytgddenhnpjoabaa
open Go.RowKit Go.BigFrame
set_option linter.unusedSimpArgs false
set_option linter.unusedVariables false
def keyB (bs : List Nat) : Key := bs.map UInt8.ofNat
theorem keyB_val (bs : List Nat) : keyV (keyB bs) = .string (strOf bs) := by
  unfold keyV keyB
  congr 1
  have := strOf_data bs
  cases h : strOf bs with
  | mk d => rw [h] at this; simp at this; rw [← this]
theorem keyB_inj {a b : List Nat} (ha : ∀ x ∈ a, x < 256) (hb : ∀ x ∈ b, x < 256) (h : keyB a = keyB b) : a = b := by
  apply strOf_inj ha hb
  have := keyB_val a
  rw [h, keyB_val] at this
  injection this with this
  exact this.symm
theorem keyB_len (bs : List Nat) : (keyB bs).length = bs.length := by simp [keyB]
theorem ains_mem (x y : Key × Value) : ∀ l : KV, y ∈ ains x l ↔ y = x ∨ y ∈ l
  | [] => by simp [ains]
  | z :: r => by
    rw [ains]
    split
    · simp
    · rw [List.mem_cons, ains_mem x y r, List.mem_cons]
      constructor
      · rintro (h | h | h)
        · exact .inr (.inl h)
        · exact .inl h
        · exact .inr (.inr h)
      · rintro (h | h | h)
        · exact .inr (.inl h)
        · exact .inl h
        · exact .inr (.inr h)
theorem ains_len (x : Key × Value) : ∀ l : KV, (ains x l).length = l.length + 1
  | [] => rfl
  | z :: r => by
    rw [ains]
    split
    · simp
    · rw [List.length_cons, ains_len x r, List.length_cons]
/-- the map's keys are just these -/
structure Keys (l : KV) (ks : List Key) : Prop where
  mem : ∀ k, k ∈ l.map Prod.fst ↔ k ∈ ks
  le : l.length ≤ ks.length
  eq : l.length = ks.length ↔ ks.Nodup
theorem Keys.nil : Keys [] [] := ⟨fun k => by simp, Nat.le_refl _, by simp⟩
theorem Keys.put {l : KV} {ks : List Key} (h : Keys l ks) (k : Key) (v : Value) : Keys (aput k v l) (ks ++ [k]) := by
  have hm : ∀ j, j ∈ (aput k v l).map Prod.fst ↔ j = k ∨ j ∈ l.map Prod.fst := by
    intro j
    unfold aput
    simp only [List.mem_map, ains_mem, adel, List.mem_filter]
    constructor
    · rintro ⟨p, rfl | ⟨hp, hk⟩, rfl⟩
      · exact .inl rfl
      · exact .inr ⟨p, hp, rfl⟩
    · rintro (rfl | ⟨p, hp, rfl⟩)
      · exact ⟨_, .inl rfl, rfl⟩
      · by_cases e : p.1 = k
        · exact ⟨(k, v), .inl rfl, e.symm⟩
        · exact ⟨p, .inr ⟨hp, by simpa using e⟩, rfl⟩
  have hlen : (aput k v l).length = (adel k l).length + 1 := by unfold aput; rw [ains_len]
  have hnd : (ks ++ [k]).Nodup ↔ ks.Nodup ∧ k ∉ ks := by
    rw [List.nodup_append]
    constructor
    · rintro ⟨h1, _, h3⟩
      exact ⟨h1, fun hk => h3 k hk k (by simp) rfl⟩
    · rintro ⟨h1, h2⟩
      exact ⟨h1, by simp, fun a ha b hb => by simp at hb; subst hb; rintro rfl; exact h2 ha⟩
  by_cases hk : k ∈ ks
  · have hlt : (adel k l).length < l.length := by
      have := (h.mem k).2 hk
      obtain ⟨p, hp, e⟩ := List.mem_map.1 this
      unfold adel
      have hle := List.length_filter_le (fun p : Key × Value => !(p.1 == k)) l
      rcases Nat.lt_or_eq_of_le hle with h' | h'
      · exact h'
      · have := (List.length_filter_eq_length_iff.1 h') p hp
        simp [e] at this
    have := h.le
    refine ⟨fun j => by rw [hm, h.mem]; simp; constructor <;> (rintro (a | a) <;> simp [a]), by rw [hlen, List.length_append, List.length_singleton]; omega, ?_⟩
    rw [hnd, hlen, List.length_append, List.length_singleton]
    exact ⟨fun e => by omega, fun e => absurd hk e.2⟩
  · have he : adel k l = l := by
      unfold adel
      rw [List.filter_eq_self]
      intro p hp
      have : p.1 ∈ l.map Prod.fst := List.mem_map.2 ⟨p, hp, rfl⟩
      rw [h.mem] at this
      simp
      rintro rfl
      exact hk this
    rw [he] at hlen
    have := h.le
    refine ⟨fun j => by rw [hm, h.mem]; simp; constructor <;> (rintro (a | a) <;> simp [a]), by rw [hlen, List.length_append, List.length_singleton]; omega, ?_⟩
    rw [hnd, hlen, List.length_append, List.length_singleton, ← h.eq]
    exact ⟨fun e => ⟨by omega, hk⟩, fun e => by omega⟩
theorem nodup_keys {l : List (List Nat)} (h : ∀ c ∈ l, ∀ b ∈ c, b < 256) : (l.map keyB).Nodup ↔ l.Nodup := by
  unfold List.Nodup
  rw [List.pairwise_map]
  constructor
  · intro hp
    exact hp.imp fun h e => h (by rw [e])
  · intro hp
    exact List.Pairwise.imp_of_mem (fun {a b} ha hb hne e => hne (keyB_inj (h a ha) (h b hb) e)) hp
end Go.Proofs.Ytgddenhnpjoabaa
