/-
  What Take of marks returns. Conditions: the bytes are no more than ten thousand.
-/
import Derived.Test.YtldnghmgdmjljaaKg
import Derived.Test.YtldnghmgdmjljaaLe
import Derived.Deep.RegionWith
namespace Go.Proofs.Ytldnghmgdmjljaa
open Go.RowKit
set_option linter.unusedSimpArgs false
set_option maxRecDepth 100000
set_option linter.unusedVariables false
theorem equal_any (A A' : Option Addr) (n n' c c' B B' : Nat) (bs bs' : List Nat) (w : World) (h : Bytes w B A n bs) (h' : Bytes w B' A' n' bs') :
    Calls Try.prog 48 #[.slice A n c, .slice A' n' c'] w fun e w' => e = .returned (.bool (bs == bs')) ∧ w = w' := by
  have k1 := str_of (P := Try.prog) h c 23 9 5 Try.underlying23 Try.underlying5 Try.underlying9
  have k2 := str_of (P := Try.prog) h' c' 23 9 5 Try.underlying23 Try.underlying5 Try.underlying9
  have he : ((strOf bs).toList == (strOf bs').toList) = (bs == bs') := by
    rw [Bool.eq_iff_iff, beq_iff_eq, beq_iff_eq, ByteArray.toList_eq, ByteArray.toList_eq]
    exact ⟨fun e => strOf_inj h.2 h'.2 (Go.WideShapes.bytes_inj e), fun e => by rw [e]⟩
  have HE := Lib.hid he
  generalize strOf bs = s1 at *
  generalize strOf bs' = s2 at *
  clear h h' he
  go_enter Try.func48, Try.ntmps48
  go_wp2
  go_ret
  exact ⟨by simp [HE.out], rfl⟩
theorem below_drew1 {B : Nat} {w w' : World} (h : Below B w w') : Below B w w'.drew := ⟨h.os, h.tape, h.output, h.size, h.block⟩
/-- the first k taken -/
def takeRow (b : List Nat) (k n : Nat) : List Nat := takeM b k ++ List.replicate (n - k) 0
theorem takeRow_zero (b : List Nat) (n : Nat) : takeRow b 0 n = List.replicate n 0 := by simp [takeRow, takeM]
theorem takeRow_all (b : List Nat) (n : Nat) : takeRow b n n = takeM b n := by simp [takeRow]
theorem takeRow_at (b : List Nat) {k n : Nat} (h : k < n) : (takeRow b k n)[k]? = some 0 := by
  unfold takeRow
  rw [List.getElem?_append_right (by rw [takeM_len]; omega), takeM_len, List.getElem?_replicate, if_pos (by omega)]
theorem takeRow_set (b : List Nat) {k n : Nat} (h : k < n) : (takeRow b k n).set k (unp b k) = takeRow b (k + 1) n := by
  unfold takeRow
  rw [List.set_append_right _ _ (by rw [takeM_len]; omega), takeM_len, Nat.sub_self, show n - k = (n - (k + 1)) + 1 by omega, List.replicate_succ, List.set_cons_zero, takeM_snoc, List.append_assoc]
  rfl
theorem unp_eq (b : List Nat) (k x : Nat) (h : b[2 + k / 4]? = some x) : x / 2 ^ (2 * (k % 4)) &&& 3 = unp b k := by
  unfold unp
  rw [mk_at h, show (3 : Nat) = 2 ^ 2 - 1 from rfl, Nat.and_two_pow_sub_one_eq_mod, Nat.pow_mul]
theorem count_or (x y : Nat) (hx : x < 256) (hy : y < 256) : bits .or .i64 (x : Int) ((y : Int) * 256) = ((x + 256 * y : Nat) : Int) := by
  rw [(or_step 8 x y 256 (x : Int) ((y : Int) * 256) rfl hx hy (by omega) (by omega) (byte_mod1 y hy)).2, show x + y * 256 = x + 256 * y by omega]
  unfold wrap64
  omega
/-- what Take comes to -/
def TakeTo (w : World) (bs : List Nat) (e : Ending) (w' : World) : Prop :=
  Below w.heap.size w w' ∧ ((TakeOk bs ∧ ∃ v, e = .returned (.tuple #[v, .nilIface]) ∧ Own w' w.heap.size v (countOf bs) (takeM bs (countOf bs))) ∨
    (¬ TakeOk bs ∧ e = .returned (.tuple #[.slice none 0 0, errV 2])))
set_option maxHeartbeats 2000000 in
theorem ktake_any (A : Option Addr) (n c : Nat) (bs : List Nat) (w : World) (hn : n ≤ 1000000) (hb : Bytes w w.heap.size A n bs) :
    Calls Try.prog 102 #[.slice A n c] w fun e w' => TakeTo w bs e w' := by
  have hl := hb.len
  by_cases h2 : n < 2
  · have hd : decide ((n : Int) < 2) = true := decide_eq_true (by omega)
    have HN : Hid (¬ TakeOk bs) := Lib.hid (fun h => by have := h.1; omega)
    go_enter Try.func102, Try.ntmps102
    go_wp2
    go_ret2
    exact ⟨Below.refl _ _, .inr ⟨HN.out, rfl⟩⟩
  have hd : decide ((n : Int) < 2) = false := decide_eq_false (by omega)
  obtain ⟨ad, x, rfl, hx, hx2, hcx⟩ := hb.at_ (k := 0) (by omega)
  obtain ⟨ad', y, he, hy, hy2, hcy⟩ := hb.at_ (k := 1) (by omega)
  injection he with he
  subst he
  have hcx0 : w.cell? ad = some (.int .u8 (x : Int)) := by
    have e : ad.add 0 = ad := by simp [Addr.add]
    rwa [e] at hcx
  have hcy1 := hcy
  simp [Addr.add] at hcy1
  have hn1 : 1 < n := by omega
  have hn0 : 0 < n := by omega
  have hor := count_or x y hx2 hy2
  have hw0 : IntKind.i64.wrap (x : Int) = (x : Int) := by rw [IntKind.wrap_i64]; omega
  have hw1 : IntKind.i64.wrap (y : Int) = (y : Int) := by rw [IntKind.wrap_i64]; omega
  have hw2 : IntKind.i64.wrap ((y : Int) * 256) = (y : Int) * 256 := by rw [IntKind.wrap_i64]; omega
  have hcnt : countOf bs = x + 256 * y := by unfold countOf; rw [mk_at hx, mk_at hy]
  have HC := Lib.hid hcnt
  have HB := Lib.hid hb
  clear hb hx hy hcnt
  obtain ⟨q, hq⟩ : ∃ q, q = x + 256 * y := ⟨_, rfl⟩
  rw [← hq] at hor HC
  have HQ := Lib.hid hq
  clear hq
  by_cases h256 : q ≤ 256
  · have HNew := Lib.hid (fun w => new_ok q h256 w)
    go_enter Try.func102, Try.ntmps102
    go_wp2
    refine Code.wp_mono (Q := fun e a' W' => match e with | .normal => a' = { tmps := #[.slice (some ad) n c, undef, .slice none 0 0, .nilIface, .slice (some ⟨w.heap.size, 0, none⟩) q q, .nilIface, undef, undef, undef, undef, .slice (some ad) n c, .int .i64 (n : Int), .bool false, undef, .tuple #[.slice (some ⟨w.heap.size, 0, none⟩) q q, .nilIface], .slice (some ad) n c, .pointer (some ad), .int .u8 (x : Int), .int .i64 (x : Int), .slice (some ad) n c, .pointer (some { block := ad.block, off := ad.off + 1 }), .int .u8 (y : Int), .int .i64 (y : Int), .int .i64 ((y : Int) * 256), .int .i64 (q : Int), .tuple #[.slice (some ⟨w.heap.size, 0, none⟩) q q, .nilIface], .slice (some ⟨w.heap.size, 0, none⟩) q q, .nilIface, undef, undef, undef, undef, undef, undef, undef, undef, undef, undef, undef, undef, undef, undef, undef, undef, undef, undef, undef, undef, undef, undef, undef, undef, undef, undef, undef, undef, undef, undef, undef, undef, undef, undef, undef, undef, undef, undef, undef, undef, undef, undef, undef, undef, undef, undef, undef], defers := [] } ∧ W' = (w.alloc (.cells (u8s (List.replicate q 0)).toArray 5)).drew | _ => False) ?_ ?_
    rotate_left
    · go_region_with (go_at_call 107; refine (HNew.out w.drew).mono ?_; rintro e w2 ⟨he, hw⟩; subst he; subst hw)
      all_goals exact ⟨rfl, rfl⟩
    · intro e a' W' hq
      cases e <;> first | exact hq.elim | skip
      obtain ⟨rfl, rfl⟩ := hq
      have K2 : Blk (w.alloc (.cells (u8s (List.replicate q 0)).toArray 5)).drew w.heap.size 5 (u8s (List.replicate q 0)).toArray := (Blk.new w 5 (u8s (List.replicate q 0)).toArray).drew
      have B2 : Below w.heap.size w (w.alloc (.cells (u8s (List.replicate q 0)).toArray 5)).drew := below_drew1 (below_alloc w _)
      have HK := Lib.hid (And.intro K2 B2)
      clear K2 B2 HNew hor hw0 hw1 hw2 hcx hcx0 hcy hcy1
      generalize (w.alloc (.cells (u8s (List.replicate q 0)).toArray 5)).drew = w2 at *
      have HZ := Lib.hid (size_any q w2 (by omega))
      obtain ⟨P, hP⟩ : ∃ P, P = 2 + (q + 3) / 4 := ⟨_, rfl⟩
      rw [← hP] at HZ
      have HP := Lib.hid hP
      clear hP
      by_cases hlen : n = P
      · have hne : ((n : Int) != (P : Int)) = false := by simp [hlen]
        have HLEN := Lib.hid hlen
        clear hlen
        generalize hg : w.heap.size = g at *
        go_wp2_with fail
        refine HZ.out.mono ?_
        rintro e w3 ⟨he, hw⟩
        subst he
        subst hw
        clear HZ
        go_wp2
        go_loopw [41] (fun i wr => ∃ k : Nat, k ≤ q ∧ i = .int .i64 k ∧ Blk wr g 5 (u8s (takeRow bs k q)).toArray ∧ Below g w wr) (fun i _ => q - (intOf i).toNat)
        case atStart => exact ⟨0, by omega, rfl, by rw [takeRow_zero]; exact HK.out.1, HK.out.2⟩
        case round =>
          obtain ⟨k, hk, rfl, hkb, hbl⟩ := hrel
          clear HK
          by_cases hlt : k < q
          · have hat0 : 2 + k / 4 < n := by have := HP.out; have := HLEN.out; omega
            obtain ⟨adx, z, he, hz, hz2, hcz⟩ := (HB.out.below hbl).at_ hat0
            injection he with he
            subst he
            have hpl := place_any k wr (by omega)
            have hcell := hkb.cell8 (takeRow_at bs hlt)
            have hfz := hkb.frozen k
            have hun := unp_eq bs k z hz
            obtain ⟨at_, hat⟩ : ∃ at_, at_ = 2 + k / 4 := ⟨_, rfl⟩
            obtain ⟨sh, hsh⟩ : ∃ sh, sh = 2 * (k % 4) := ⟨_, rfl⟩
            rw [← hat] at hcz hpl hat0
            rw [← hsh] at hpl hun
            have e1 : ((z : Int) / 2 ^ sh) = ((z / 2 ^ sh : Nat) : Int) := by push_cast; rfl
            have hle : z / 2 ^ sh < 256 := Nat.lt_of_le_of_lt (Nat.div_le_self _ _) hz2
            have e2 : bits .and .u8 ((z / 2 ^ sh : Nat) : Int) 3 = ((unp bs k : Nat) : Int) := by
              rw [← hun]
              exact u8_and_nat (z / 2 ^ sh) 3 hle (by omega)
            have hsh2 : sh ≤ 6 := by omega
            have HPL := Lib.hid hpl
            have HS := Lib.hid (takeRow_set bs hlt)
            have HE := Lib.hid (fun v : Nat => And.intro (hkb.set8 k v) (hbl.setCell (p := ⟨g, k, none⟩) (Nat.le_refl _) (.int .u8 (v : Int))))
            generalize unp bs k = un at *
            generalize z / 2 ^ sh = zs at *
            clear hkb hbl hun hpl hz hat hsh hle
            go_wp2_with fail
            refine HPL.out.mono ?_
            rintro e w3 ⟨he, hw⟩
            subst he
            subst hw
            clear HPL
            go_wp2
            go_roundw
            case rel => exact ⟨k + 1, by omega, by go_num, by rw [← HS.out]; exact (HE.out un).1, (HE.out un).2⟩
            case measure => simp [intOf]; omega
          · obtain rfl : k = q := by omega
            have HE := Lib.hid (And.intro hkb hbl)
            clear hkb hbl
            rw [takeRow_all] at HE
            have hgood : Good (takeM bs k) := ⟨by rw [takeM_len]; omega, takeM_le bs k⟩
            have hbw : Bytes wr wr.heap.size (some ⟨g, 0, none⟩) k (takeM bs k) := HE.out.1.bytes (takeM_len bs k) (fun b hb => by have := takeM_le bs k b hb; omega)
            have HPut := Lib.hid (put_ok (some ⟨g, 0, none⟩) k k (takeM bs k) wr hbw hgood)
            have hpl2 : (putM (takeM bs k)).length = 2 + (k + 3) / 4 := by rw [putM_len, takeM_len]
            have hpb := putM_lt hgood
            have HPB := Lib.hid (And.intro hpl2 hpb)
            have HG := Lib.hid hgood
            clear hbw hgood hpl2 hpb
            go_wp2_with fail
            refine HPut.out.mono ?_
            rintro e w3 ⟨he, k3, b3⟩
            subst he
            have hmo := HE.out.2.size
            have hbb : Bytes w3 g (some ad) n bs := (HB.out.below HE.out.2).below (b3.mono (by omega))
            have HEq := Lib.hid (equal_any (some ⟨wr.heap.size, 0, none⟩) (some ad) _ n (2 + (k + 3) / 4) c _ _ _ bs w3 (k3.bytes HPB.out.1 HPB.out.2) hbb)
            have HB3 := Lib.hid (HE.out.2.trans (b3.mono (by omega)))
            have HKm : Hid (Blk w3 g 5 (u8s (takeM bs k)).toArray) := Lib.hid (HE.out.1.below b3 HE.out.1.lt)
            clear hbb k3 b3 HPut
            go_wp2_with fail
            refine HEq.out.mono ?_
            rintro e w4 ⟨he, hw⟩
            subst he
            subst hw
            by_cases heq : putM (takeM bs k) = bs
            · have hb1 : (putM (takeM bs k) == bs) = true := by simpa using heq
              have HN : Hid (TakeOk bs) := Lib.hid ⟨by omega, by rw [HC.out]; exact h256, by rw [HC.out, ← HP.out, ← HLEN.out]; exact hl, by rw [HC.out]; exact heq⟩
              rw [hb1]
              clear hb1 heq
              go_wp2
              go_ret2
              subst hg
              exact ⟨HB3.out, .inl ⟨HN.out, _, rfl, by rw [HC.out]; exact Own.of_blk HKm.out (takeM_len _ _) (Nat.le_refl _) (by omega)⟩⟩
            · have hb1 : (putM (takeM bs k) == bs) = false := by simpa using heq
              have HN : Hid (¬ TakeOk bs) := Lib.hid (fun h => heq (by have := h.2.2.2; rwa [HC.out] at this))
              rw [hb1]
              clear hb1 heq
              go_wp2
              go_ret2
              subst hg
              exact ⟨HB3.out, .inr ⟨HN.out, rfl⟩⟩
      · have HN : Hid (¬ TakeOk bs) := Lib.hid (fun h => by have := h.2.2.1; rw [HC.out, ← HP.out] at this; omega)
        have hne : ((n : Int) != (P : Int)) = true := by simp; omega
        go_wp2_with fail
        refine HZ.out.mono ?_
        rintro e w3 ⟨he, hw⟩
        subst he
        subst hw
        go_wp2
        go_ret2
        exact ⟨HK.out.2, .inr ⟨HN.out, rfl⟩⟩
  · have HNew := Lib.hid (fun w => new_bad (q : Int) (by omega) w)
    have HN : Hid (¬ TakeOk bs) := Lib.hid (fun h => by have := h.2.1; rw [HC.out] at this; omega)
    go_enter Try.func102, Try.ntmps102
    go_wp2
    go_region_with (go_at_call 107; refine (HNew.out w.drew).mono ?_; rintro e w2 ⟨he, hw⟩; subst he; subst hw)
    all_goals
      simp only [errV]
      go_wp2
      go_ret2
      exact ⟨below_drew' (Below.refl _ _), .inr ⟨HN.out, rfl⟩⟩
end Go.Proofs.Ytldnghmgdmjljaa
