/-
  The document's Take. Conditions: the bytes are no more than two thousand.
-/
import Derived.Test.YtldnghmgdmjljaaKk
import Derived.Deep.RegionWith
namespace Go.Proofs.Ytldnghmgdmjljaa
open Go.RowKit
set_option linter.unusedSimpArgs false
set_option maxRecDepth 100000
set_option linter.unusedVariables false
/-- what the document's Take comes to -/
def DTakeTo (w : World) (bs : List Nat) (e : Ending) (w' : World) : Prop :=
  Below w.heap.size w w' ∧ ((TakeOk bs ∧ ∃ v, e = .returned (.tuple #[v, .bool true]) ∧ Own w' w.heap.size v (countOf bs) (takeM bs (countOf bs))) ∨
    (¬ TakeOk bs ∧ e = .returned (.tuple #[.slice none 0 0, .bool false])))
/-- x parted by four, r times -/
theorem div_four (x r : Nat) : x / 4 ^ r / 4 = x / 4 ^ (r + 1) := by rw [Nat.div_div_eq_div_mul, Nat.pow_succ]
theorem unp_at {b : List Nat} {k x : Nat} (h : b[2 + k / 4]? = some x) : unp b k = x / 4 ^ (k % 4) % 4 := by unfold unp; rw [mk_at h]
set_option maxHeartbeats 2000000 in
theorem dtake_any (A : Option Addr) (n c : Nat) (bs : List Nat) (w : World) (hn : n ≤ 25000) (hb : Bytes w w.heap.size A n bs) :
    Calls Try.prog 90 #[.slice A n c] w fun e w' => DTakeTo w bs e w' := by
  have hl := hb.len
  by_cases h2 : n < 2
  · have hd : decide ((n : Int) < 2) = true := decide_eq_true (by omega)
    have HN : Hid (¬ TakeOk bs) := Lib.hid (fun h => by have := h.1; omega)
    go_enter Try.func90, Try.ntmps90
    go_wp2
    go_ret2
    exact ⟨Below.refl _ _, .inr ⟨HN.out, rfl⟩⟩
  have hd : decide ((n : Int) < 2) = false := decide_eq_false (by omega)
  obtain ⟨ad, x, rfl, hx, hx2, hcx⟩ := hb.at_ (k := 0) (by omega)
  obtain ⟨ad', y, he, hy, hy2, hcy⟩ := hb.at_ (k := 1) (by omega)
  injection he with he
  subst he
  have hcx0 : w.cell? ad = some (.int .u8 (x : Int)) := by
    have e : ad.add 0 = ad := by simp [Addr.add]
    rwa [e] at hcx
  have hcy1 := hcy
  simp [Addr.add] at hcy1
  have hn1 : 1 < n := by omega
  have hn0 : 0 < n := by omega
  have hcnt : countOf bs = x + 256 * y := by unfold countOf; rw [mk_at hx, mk_at hy]
  have HC := Lib.hid hcnt
  have HB := Lib.hid hb
  clear hb hx hy hcnt
  obtain ⟨q, hq⟩ : ∃ q, q = x + 256 * y := ⟨_, rfl⟩
  have hsum : (x : Int) + 256 * (y : Int) = (q : Int) := by omega
  have hw0 : IntKind.i64.wrap (x : Int) = (x : Int) := by rw [IntKind.wrap_i64]; omega
  have hw1 : IntKind.i64.wrap (y : Int) = (y : Int) := by rw [IntKind.wrap_i64]; omega
  have hw2 : IntKind.i64.wrap (256 * (y : Int)) = 256 * (y : Int) := by rw [IntKind.wrap_i64]; omega
  have hq9 : q ≤ 65535 := by omega
  rw [← hq] at HC
  clear hq
  go_enter Try.func90, Try.ntmps90
  go_wp2
  go_quiet (fail)
  go_wp2
  have hb1 : Below w.heap.size w (w.drewN nq) := below_drewN (Below.refl _ _) nq
  have HK := Lib.hid hb1
  clear hcx hcx0 hcy hcy1 hsum hw0 hw1 hw2 hb1
  generalize w.drewN nq = w1 at *
  go_loopw [5, 6] (fun v i wr => ∃ k : Nat, k ≤ q ∧ (k = 0 ∨ 2 + (k - 1) / 4 < n) ∧ i = .int .i64 k ∧ OwnB w wr v (takeM bs k)) (fun _ i _ => q - (intOf i).toNat)
  case atStart => exact ⟨0, by omega, .inl rfl, rfl, Own.nil _ _, HK.out⟩
  case round =>
    obtain ⟨k, hkq, hkn, rfl, ho⟩ := hrel
    have HO := Lib.hid ho
    have HKN := Lib.hid hkn
    clear ho HK hkn
    have HLN := Lib.hid (takeM_len bs k)
    have hk8 : k ≤ 100008 := by have := HKN.out; omega
    obtain ⟨at_, hat⟩ : ∃ at_, at_ = 2 + k / 4 := ⟨_, rfl⟩
    have hati : 2 + (k : Int) / 4 = (at_ : Int) := by omega
    have HAT := Lib.hid hat
    have hat3 : at_ ≤ 30000 := by omega
    clear hat
    by_cases hlt : k < q
    · have hd1 : decide ((k : Int) < (q : Int)) = true := decide_eq_true (by omega)
      by_cases han : at_ < n
      · -- {A1
        have hd2 : decide ((at_ : Int) < (n : Int)) = true := decide_eq_true (by omega)
        obtain ⟨adx, z, he, hz, hz2, hcz⟩ := (HB.out.below HO.out.2).at_ han
        injection he with he
        subst he
        have hun : unp bs k = z / 4 ^ (k % 4) % 4 := unp_at (by rw [← HAT.out]; exact hz)
        obtain ⟨md, hmd⟩ : ∃ md, md = k % 4 := ⟨_, rfl⟩
        have hmdi : (k : Int) % 4 = (md : Int) := by omega
        have hmd3 : md ≤ 3 := by omega
        rw [← hmd] at hun
        have HUN := Lib.hid hun
        have hzz : ∀ r, z / 4 ^ r < 256 := fun r => Nat.lt_of_le_of_lt (Nat.div_le_self _ _) hz2
        have HZZ := Lib.hid hzz
        clear hz hun hzz hmd
        rename World => wo
        go_wp2
        go_loopw [7, 8] (fun xv rv wr => ∃ (r : Nat), r ≤ md ∧ xv = .int .i64 (z / 4 ^ r : Nat) ∧ rv = .int .i64 r ∧ wr = wo) (fun _ rv _ => md - (intOf rv).toNat)
        case atStart => exact ⟨0, by omega, by rw [Nat.pow_zero, Nat.div_one], rfl, by trivial⟩
        case round =>
          obtain ⟨r, hr, rfl, rfl, rfl⟩ := hrel
          have hzr := HZZ.out r
          by_cases hrm : r < md
          · have hdr : decide ((r : Int) < (md : Int)) = true := decide_eq_true (by omega)
            have HD := Lib.hid (div_four z r)
            generalize z / 4 ^ r = zr at *
            go_wp2
            refine ⟨⟨r + 1, by omega, ?_, by go_num, by trivial⟩, by simp only [intOf]; omega⟩
            rw [← HD.out]
            push_cast
            rfl
          · obtain rfl : r = md := by omega
            have hdr : decide ((r : Int) < (r : Int)) = false := decide_eq_false (by omega)
            have HS := Lib.hid (takeM_snoc bs k)
            rw [HUN.out] at HS
            have hln := takeM_len bs k
            generalize z / 4 ^ r = zr at *
            obtain ⟨u, hu⟩ : ∃ u, u = zr % 4 := ⟨_, rfl⟩
            have hui : (zr : Int) % 4 = (u : Int) := by omega
            have hu3 : u ≤ 3 := by omega
            rw [← hu] at HS
            clear hu
            have hsz := HO.out.2.size
            have HW := Lib.hid (fun (z : Int) t f => World.ownsRow.alloc HO.out.1 (.cells #[.int .u8 z] t f))
            go_wp2_with (refine app_bytes (.tmp 50) (.tmp 54) rfl rfl w.heap.size _ _ _ rfl (HW.out _ _ _) _ _ 1 1 [u] rfl (Bytes.new wr [u] _ _ (by intro x hx; simp at hx; subst hx; omega)) (by rw [hln]; omega) (by simp; omega) ?_
                         intro v5 w5 h5 g5 a5
                         have HV := Lib.hid (HO.out.one h5 g5)
                         clear h5 g5)
            refine ⟨⟨k + 1, by omega, .inr (by rw [Nat.add_sub_cancel, ← HAT.out]; exact han), by go_num, by rw [HS.out]; exact HV.out⟩, by simp only [intOf]; omega⟩
        -- A1}
      · have hd2 : decide ((at_ : Int) < (n : Int)) = false := decide_eq_false (by omega)
        have HN : Hid (¬ TakeOk bs) := Lib.hid (fun h => by
          have h1 := h.2.2.1
          rw [HC.out] at h1
          have := HAT.out
          omega)
        have hne : ((k : Int) != (q : Int)) = true := by simp; omega
        obtain ⟨Av, cv, rfl, -⟩ := HO.out.1.form
        rw [HLN.out] at HO ⊢
        go_wp2
        go_quiet (fail)
        go_wp2
        go_ret2
        exact ⟨below_drewN HO.out.2 _, .inr ⟨HN.out, rfl⟩⟩
    · obtain rfl : k = q := by omega
      have hd1 : decide ((k : Int) < (k : Int)) = false := decide_eq_false (by omega)
      have hne : ((k : Int) != (k : Int)) = false := by simp
      obtain ⟨Av, cv, hv, -⟩ := HO.out.1.form
      rw [HLN.out] at hv
      subst hv
      have hown : Own wr w.heap.size (.slice Av k cv) k (takeM bs k) := by have := HO.out.1; rwa [HLN.out] at this
      have hbel := HO.out.2
      have hby := hown.bytes (fun b hb => by have := takeM_le bs k b hb; omega)
      have HX := Lib.hid (And.intro hown (And.intro hbel hby))
      by_cases hg : k ≤ 256
      · have hgood : Good (takeM bs k) := ⟨by rw [takeM_len]; exact hg, takeM_le bs k⟩
        have hgo := dgood_any Av k cv _ (takeM bs k) wr.drew (by omega) hby.drew
        rw [show decide (Good (takeM bs k)) = true from decide_eq_true hgood] at hgo
        have hpu := dput_any Av k cv (takeM bs k) wr.drew hby.drew hgood
        have HGo := Lib.hid (And.intro hgo hpu)
        have hkb := str_of (P := Try.prog) (HB.out.below hbel).drew c 23 9 5 Try.underlying23 Try.underlying5 Try.underlying9
        have hbd : Below w.heap.size w wr.drew := ⟨hbel.os, hbel.tape, hbel.output, hbel.size, hbel.block⟩
        have HY := Lib.hid (And.intro hgood hbd)
        have he : ((strOf (putM (takeM bs k))).toList == (strOf bs).toList) = (putM (takeM bs k) == bs) := by
          rw [Bool.eq_iff_iff, beq_iff_eq, beq_iff_eq, ByteArray.toList_eq, ByteArray.toList_eq]
          exact ⟨fun e => strOf_inj (putM_lt hgood) HB.out.2 (Go.WideShapes.bytes_inj e), fun e => by rw [e]⟩
        have HE := Lib.hid he
        clear hgo hpu hown hbel hby HO hgood hbd he
        generalize hs2 : strOf bs = s2 at *
        generalize hs1 : strOf (putM (takeM bs k)) = s1 at *
        have HSS := Lib.hid (And.intro hs1 hs2)
        clear hs1 hs2
        go_wp2
        go_region_with (first
          | (go_at_call 77; refine HGo.out.1.mono ?_; rintro e w2 ⟨he, hw⟩; subst he; subst hw)
          | (go_at_call 87; refine HGo.out.2.mono ?_; rintro e w2 ⟨v2, he, ho2, hb2⟩; subst he; obtain ⟨A2, c2, hv2, -⟩ := ho2.form; subst hv2
             have kp := str_of (P := Try.prog) (ho2.bytes (putM_lt HY.out.1)) c2 23 9 5 Try.underlying23 Try.underlying5 Try.underlying9
             have kb := str_of (P := Try.prog) ((HB.out.below HY.out.2).below (hb2.mono HY.out.2.size)) c 23 9 5 Try.underlying23 Try.underlying5 Try.underlying9
             rw [HSS.out.1] at kp
             rw [HSS.out.2] at kb
             have HB2 := Lib.hid (And.intro ho2 hb2)
             clear ho2 hb2))
        all_goals
          by_cases heq : putM (takeM bs k) = bs
          · have HN : Hid (TakeOk bs) := Lib.hid ⟨by omega, by rw [HC.out]; exact hg, by have h1 := congrArg List.length heq; rw [putM_len, HLN.out, hl] at h1; rw [HC.out, hl]; exact h1.symm, by rw [HC.out]; exact heq⟩
            have hc1 : (s1.toList == s2.toList) = true := by rw [HE.out]; simpa using heq
            have HC1 := Lib.hid hc1
            have HFin : Hid (DTakeTo w bs (.returned (.tuple #[.slice Av k cv, .bool true])) w2) := Lib.hid ⟨HY.out.2.trans (HB2.out.2.mono HY.out.2.size), .inl ⟨HN.out, _, rfl, by rw [HC.out]; exact Own.below (w := wr.drew) HX.out.1 HB2.out.2⟩⟩
            clear hc1
            go_wp2
            all_goals rename_i hx
            all_goals first
              | (rw [HC1.out] at hx; cases hx; done)
              | (go_ret2; exact HFin.out)
          · have HN : Hid (¬ TakeOk bs) := Lib.hid (fun h => heq (by have := h.2.2.2; rwa [HC.out] at this))
            have hc1 : (s1.toList == s2.toList) = false := by rw [HE.out]; simpa using heq
            have HC1 := Lib.hid hc1
            have HFin : Hid (DTakeTo w bs (.returned (.tuple #[.slice none 0 0, .bool false])) w2) := Lib.hid ⟨HY.out.2.trans (HB2.out.2.mono HY.out.2.size), .inr ⟨HN.out, rfl⟩⟩
            clear hc1
            go_wp2
            all_goals rename_i hx
            all_goals first
              | (rw [HC1.out] at hx; cases hx; done)
              | (go_ret2; exact HFin.out)
      · have HN : Hid (¬ TakeOk bs) := Lib.hid (fun h => by have h1 := h.2.1; rw [HC.out] at h1; omega)
        have hgo := fun m => dgood_any Av k cv _ (takeM bs k) (wr.drewN m) (by omega) (hby.drewN m)
        rw [show decide (Good (takeM bs k)) = false from decide_eq_false (fun h => by have := h.1; rw [takeM_len] at this; omega)] at hgo
        have HGo := Lib.hid hgo
        clear hgo hown hbel hby HO
        go_wp2
        go_quiet ((go_at_call 77; exact Calls.quiet_of_same ((HGo.out _).mono fun e w' h => ⟨h.1, h.2.symm⟩)))
        go_wp2
        go_ret2
        exact ⟨below_drewN HX.out.2.1 _, .inr ⟨HN.out, rfl⟩⟩
end Go.Proofs.Ytldnghmgdmjljaa
