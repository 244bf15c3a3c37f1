/-
  An object's attributes are taken. Conditions: the object and the reader lie where they are said to.
-/
import Derived.Test.YtfbpfgbmlbkffaaGreatZi
import Derived.Test.YtfbpfgbmlbkffaaGreatSkdC
namespace Go.Proofs.YtfbpfgbmlbkffaaGreat
open Go.RowKit Go.BigFrame
set_option linter.unusedSimpArgs false
set_option linter.unusedVariables false
set_option maxRecDepth 100000
/-! ### a reader's own block changes -/
def Readers (w : World) (G : List Nat) : Prop := ∀ k ∈ G, ∃ cs, Blk w k 112 cs
theorem Rd.readers {w : World} {base : Nat} {F : List Nat} {p : Option Addr} {s : RD} (h : Rd w base F p s) : Readers w (heads p) := fun k hk => by
  rcases h with ⟨rfl, _, _⟩ | ⟨g, rfl, A, c, rfl, h1, _⟩
  · cases hk
  · simp [heads] at hk
    subst hk
    exact ⟨_, h1⟩
theorem ObAt.rd {w w' : World} {G : List Nat} {go mb c ce : Nat} {D E : Option Addr} {kv : KV} {o : Ob} (h : ObAt w go mb c ce D E kv o) (ho : Only G w w') (hG : Readers w G) : ObAt w' go mb c ce D E kv o :=
  h.only ho (fun k hk _ => by
    obtain ⟨cs, hb⟩ := hG k hk
    exact ⟨Odd.blk hb (by decide), Odd.blk hb (by decide), Odd.blk hb (by decide)⟩) (fun hm => by
    obtain ⟨cs, hb⟩ := hG _ hm
    exact h.map.ne_blk hb rfl)
theorem StAt.rd {w w' : World} {G : List Nat} {gs ms gp r c : Nat} {A : Option Addr} {bl fl : List Bool} {kv : KV} (h : StAt w gs ms gp r c A bl fl kv) (ho : Only G w w') (hG : Readers w G) : StAt w' gs ms gp r c A bl fl kv := by
  have hn : ∀ {k : Nat} {t : TypeId} {cs : Array Value}, Blk w k t cs → t ≠ 112 → k ∉ G := fun {k t cs} hb ht hm => by
    obtain ⟨cs', hb'⟩ := hG k hm
    exact hb.ne_ hb' ht rfl
  refine ⟨h.blk.of (ho.block _ h.blk.lt (hn h.blk (by decide))), h.len, h.map.of (ho.block _ h.map.lt fun hm => ?_), ⟨h.sp.blk.of (ho.block _ h.sp.blk.lt (hn h.sp.blk (by decide))), h.sp.cap, h.sp.lim, ?_⟩, h.ne⟩
  · obtain ⟨cs, hb⟩ := hG _ hm
    exact h.map.ne_blk hb rfl
  · rcases h.sp.row with e | ⟨e, cs, hb, hc⟩
    · exact .inl e
    · exact .inr ⟨e, cs, hb.of (ho.block _ hb.lt (hn hb (by decide))), hc⟩
/-- an attribute more -/
theorem ObAt.attr {w w' : World} {go mb c ce : Nat} {D E : Option Addr} {kv : KV} {o : Ob} (h : ObAt w go mb c ce D E kv o) {k : Key} {v : Value} {bs : List Nat} (hv : RowR w 0 [] v bs) (hm : SMap Tryz.prog 9 w' mb (aput k v kv)) (ho : Only [mb] w w') : ObAt w' go mb c ce D E (aput k v kv) {o with a := gput k bs o.a} := by
  have hod : ∀ (e : TypeId), ∀ k ∈ [mb], Odd w e k := fun e k hk => by simp at hk; subst hk; exact Odd.map h.map
  refine ⟨h.blk.of (ho.block _ h.blk.lt fun hk => by simp at hk; exact h.map.ne_blk h.blk hk.symm), own_odd h.dat ho (hod _), h.ok, hm, ?_, own_odd h.ext ho (hod _)⟩
  have hr : Rel2 (AttrR w' []) kv o.a := h.att.imp fun a b hr => ⟨hr.1, hr.2.only ho fun k hk => .inr (hod _ k hk)⟩
  exact hr.put AttrR.key ⟨rfl, hv.only ho fun k hk => .inr (hod _ k hk)⟩
/-- what takeAttrs comes to -/
def TkATo (w : World) (base g go mb c ce : Nat) (D E : Option Addr) (o : Ob) (F : List Nat) (s : RD) (e : Ending) (w' : World) : Prop :=
  Only [g, mb] w w' ∧ ((tkA s.num.toNat (s.take 8) o.a = none ∧ e = .returned (.bool false)) ∨ ∃ a' s' kv' F', tkA s.num.toNat (s.take 8) o.a = some (a', s') ∧ e = .returned (.bool true) ∧ ObAt w' go mb c ce D E kv' {o with a := a'} ∧ Rd w' base F' (some ⟨g, 0, none⟩) s' ∧ (∀ k ∈ F', k ∈ F) ∧ s'.bs.length ≤ s.bs.length)
set_option maxHeartbeats 8000000 in
theorem takea_any {w : World} {base g go mb c ce : Nat} {D E : Option Addr} {kv : KV} {o : Ob} {F : List Nat} {s : RD} (hO : ObAt w go mb c ce D E kv o) (hR : Rd w base F (some ⟨g, 0, none⟩) s) (hB : base ≤ w.heap.size) (hs : s.bs.length ≤ 1000000) (ha : o.a.length ≤ 9000000) (hmF : mb ∉ F) :
    Calls Tryz.prog 60 #[.pointer (some ⟨go, 0, none⟩), .pointer (some ⟨g, 0, none⟩)] w (TkATo w base g go mb c ce D E o F s) := by
  have HR := Lib.hid (rnum_any w base F (some ⟨g, 0, none⟩) s hR hB)
  have H0 := Lib.hid (And.intro hO (And.intro hR (And.intro hB (And.intro hs (And.intro ha hmF)))))
  obtain ⟨N, hN⟩ : ∃ N, N = s.num := ⟨_, rfl⟩
  have hNr := num_range s
  have HT := Lib.hid (And.intro hN (RD.take_le s 8))
  rw [← hN] at HR hNr
  clear hO hR hs ha hmF hN
  go_enter Tryz.func60, Tryz.ntmps60
  go_wp2_with fail
  refine HR.out.mono ?_
  rintro e w1 ⟨rfl, F1, r1, o1, f1⟩
  have O1 := H0.out.1.rd o1 H0.out.2.1.readers
  have H1 := Lib.hid (And.intro o1 (And.intro f1 (And.intro r1 O1)))
  clear r1 o1 f1 O1 HR
  go_wp2_with fail
  go_loopw [9] (fun iv wr => ∃ (k : Nat) (a : AL) (sk : RD) (kvk : KV) (Fk : List Nat), iv = .int .i64 k ∧ (k = 0 ∨ (k : Int) ≤ N) ∧ tkA s.num.toNat (s.take 8) o.a = tkA (N.toNat - k) sk a ∧ ObAt wr go mb c ce D E kvk {o with a := a} ∧ Rd wr base Fk (some ⟨g, 0, none⟩) sk ∧ (∀ k ∈ Fk, k ∈ F) ∧ Only [g, mb] w wr ∧ a.length + sk.bs.length ≤ 18000000 ∧ sk.bs.length ≤ s.bs.length) (fun iv _ => N.toNat - (intS iv).toNat)
  case atStart => exact ⟨0, o.a, s.take 8, kv, F1, rfl, .inl rfl, by rw [HT.out.1]; rfl, H1.out.2.2.2, H1.out.2.2.1, H1.out.2.1, H1.out.1.mono (fun k hk => by simp [heads] at hk; simp [hk]), by have := HT.out.2; have := H0.out.2.2.2.2.1; have := H0.out.2.2.2.1; omega, HT.out.2⟩
  case round =>
    obtain ⟨k, a, sk, kvk, Fk, rfl, hk, htk, hOk, hRk, hFk, hon, hcnt, hle⟩ := hrel
    have hsz := hon.size
    have hBk : base ≤ wr.heap.size := Nat.le_trans H0.out.2.2.1 hsz
    by_cases hlt : (k : Int) < N
    -- {A
    · have hdk : decide ((k : Int) < N) = true := decide_eq_true hlt
      have hwk : IntKind.i64.wrap ((k : Int) + 1) = (k : Int) + 1 := by rw [IntKind.wrap_i64]; omega
      obtain ⟨j, hj⟩ : ∃ j, N.toNat - k = j + 1 := ⟨N.toNat - k - 1, by omega⟩
      have hj2 : N.toNat - (k + 1) = j := by omega
      rw [hj, tkA] at htk
      have HX := Lib.hid (rtext_any wr base Fk (some ⟨g, 0, none⟩) sk hRk hBk)
      have HK := Lib.hid (And.intro htk (And.intro hOk (And.intro hRk (And.intro hFk (And.intro hon (And.intro hcnt (And.intro hle (And.intro hj2 hBk))))))))
      have hnsm : ∀ b ∈ sk.bytes, b < 256 := RD.got_lt (RD.take_good hRk.good 8) _
      have hnl : sk.bytes.length ≤ 1000000 := by have := RD.got_le (sk.take 8) sk.num; have := RD.take_le sk 8; have := H0.out.2.2.2.1; unfold RD.bytes; omega
      have HNS := Lib.hid (And.intro hnsm hnl)
      clear htk hOk hRk hFk hon hcnt hle hj hj2 hnsm hnl hsz
      go_wp2_with fail
      refine HX.out.mono ?_
      rintro e w2 ⟨rfl, F2, r2, o2, f2⟩
      have hle2 := RD.bytesTo_le sk
      have HY := Lib.hid (rbytes_any w2 base F2 (some ⟨g, 0, none⟩) sk.bytesTo r2 (Nat.le_trans HK.out.2.2.2.2.2.2.2.2 o2.size) (by have := HK.out.2.2.2.2.2.2.1; have := H0.out.2.2.2.1; omega))
      have H2 := Lib.hid (And.intro r2 (And.intro o2 f2))
      clear r2 o2 f2 HX
      go_wp2_with fail
      refine HY.out.mono ?_
      rintro e w3 ⟨v, F3, rfl, hov, r3, o3, f3, hvs, -⟩
      obtain ⟨A3, c3, rfl, -⟩ := hov.form
      have HN := Lib.hid (isName_any sk.bytes HNS.out.1 HNS.out.2 w3)
      have H3 := Lib.hid (And.intro hov (And.intro r3 (And.intro o3 (And.intro f3 hvs))))
      clear hov r3 o3 f3 hvs HY
      go_wp2_with fail
      refine HN.out.mono ?_
      rintro e w4 ⟨rfl, hb4⟩
      have HB4 := Lib.hid hb4
      have hon4 : Only [g, mb] w w4 := by
        have e1 : Only [g, mb] wr w2 := H2.out.2.1.mono (fun k hk => by simp [heads] at hk; simp [hk])
        have e2 : Only [g, mb] w2 w3 := H3.out.2.2.1.mono (fun k hk => by simp [heads] at hk; simp [hk])
        exact ((HK.out.2.2.2.2.1.trans e1 (Fresh.refl _ _)).trans e2 (Fresh.refl _ _)).trans (Only.of_below hb4 _) (Fresh.refl _ _)
      have HO4 := Lib.hid hon4
      obtain ⟨m, hm⟩ : ∃ m, m = sk.bytesTo.bytes.length := ⟨_, rfl⟩
      have hm9 : m ≤ 9000000 := by
        have := RD.got_le (sk.bytesTo.take 8) sk.bytesTo.num
        have := RD.take_le sk.bytesTo 8
        have := HK.out.2.2.2.2.2.2.1
        have := H0.out.2.2.2.1
        have := RD.bytesTo_le sk
        rw [hm]
        unfold RD.bytes
        omega
      rw [← hm]
      have HM := Lib.hid hm
      clear hb4 HN hon4 hm
      cases hnm : isNameB sk.bytes
      · have hnone : tkA s.num.toNat (s.take 8) o.a = none := by rw [HK.out.1, hnm]; simp
        have HZ := Lib.hid hnone
        clear hnone hnm
        go_wp2
        go_ret
        exact ⟨HO4.out, .inl ⟨HZ.out, rfl⟩⟩
      · by_cases hlen : m ≤ 1024
        · have hd : decide ((1024 : Int) < (m : Int)) = false := decide_eq_false (by omega)
          have O4 : ObAt w4 go mb c ce D E kvk {o with a := a} := ((HK.out.2.1.rd H2.out.2.1 HK.out.2.2.1.readers).rd H3.out.2.2.1 H2.out.1.readers).below HB4.out
          have R4 := H3.out.2.1.below HB4.out
          have V4 : RowR w4 0 [] (.slice A3 m c3) sk.bytesTo.bytes := ⟨A3, c3, by rw [HM.out], by have := (H3.out.1.below HB4.out).weaken (Nat.zero_le _); rwa [← HM.out] at this ⊢, H3.out.2.2.2.2, fun k hk hm => by cases hm⟩
          have c1 : w4.cell? ⟨go, 1, none⟩ = some (.map (some mb)) := O4.blk.cell 1
          have hkl : kvk.length = a.length := O4.att.len
          obtain ⟨w5, hrun, hm5, hg5, -⟩ := run_update_smap (P := Tryz.prog) Tryz.underlying9 Tryz.underlying97 O4.map (keyB sk.bytes) (by have := HNS.out.2; simp [keyB, maxLen]; omega) (by have := HK.out.2.2.2.2.2.1; rw [hkl]; simp only [maxLen]; omega) (.slice A3 m c3)
          rw [keyB_val] at hrun
          have ho5 : Only [mb] w4 w5 := (Only.refl _ _).grown hg5 (fun g hg => .inl (by injection hg with hg; simp [hg]))
          have O5 := O4.attr V4 hm5 ho5
          have hF3 : ∀ k ∈ F3, k ∈ F := fun k hk => HK.out.2.2.2.1 k (H2.out.2.2 k (H3.out.2.2.2.1 k hk))
          have R5 : Rd w5 base F3 (some ⟨g, 0, none⟩) sk.bytesTo.bytesTo := R4.of ho5.size (fun k hk => ho5.block k (R4.under k hk) (fun hm => by simp at hm; subst hm; exact H0.out.2.2.2.2.2 (hF3 _ hk)))
          have hu1 := RD.bytes_used (s := sk) (name_pos hnm).1
          have hu2 := RD.bytesTo_le sk.bytesTo
          have hfin : tkA s.num.toNat (s.take 8) o.a = tkA (N.toNat - (k + 1)) sk.bytesTo.bytesTo (gput (keyB sk.bytes) sk.bytesTo.bytes a) := by
            rw [HK.out.1, HK.out.2.2.2.2.2.2.2.1, if_pos ⟨hnm, by rw [← HM.out]; exact hlen⟩]
          have hgl := gput_len (keyB sk.bytes) sk.bytesTo.bytes a
          have hc5 := HK.out.2.2.2.2.2.1
          have hc6 := HK.out.2.2.2.2.2.2.1
          have HFIN := Lib.hid (And.intro hfin (And.intro O5 (And.intro R5 (And.intro hF3 (And.intro (HO4.out.trans (ho5.mono (fun k hk => by simp at hk; simp [hk])) (Fresh.refl _ _)) (And.intro (show (gput (keyB sk.bytes) sk.bytesTo.bytes a).length + sk.bytesTo.bytesTo.bs.length ≤ 18000000 by omega) (show sk.bytesTo.bytesTo.bs.length ≤ s.bs.length by omega)))))))
          clear hfin O5 R5 hF3 ho5 hm5 hg5 V4 R4 O4 hkl hgl hu1 hu2 hc5 hc6 hnm
          go_wp2_with fail
          go_roundw
          case rel => exact ⟨k + 1, _, _, _, F3, by go_num, .inr (by omega), HFIN.out.1, HFIN.out.2.1, HFIN.out.2.2.1, HFIN.out.2.2.2.1, HFIN.out.2.2.2.2.1, HFIN.out.2.2.2.2.2.1, HFIN.out.2.2.2.2.2.2⟩
          case measure => simp [intS]; omega
        · have hd : decide ((1024 : Int) < (m : Int)) = true := decide_eq_true (by omega)
          have hnone : tkA s.num.toNat (s.take 8) o.a = none := by rw [HK.out.1, if_neg (fun h => hlen (by rw [HM.out]; exact h.2))]
          have HZ := Lib.hid hnone
          clear hnone hnm
          go_wp2
          go_ret
          exact ⟨HO4.out, .inl ⟨HZ.out, rfl⟩⟩
    -- A}
    · have hdk : decide ((k : Int) < N) = false := decide_eq_false hlt
      have hj : N.toNat - k = 0 := by omega
      rw [hj, tkA] at htk
      have HFIN := Lib.hid (show TkATo w base g go mb c ce D E o F s (.returned (.bool true)) wr from ⟨hon, .inr ⟨a, sk, kvk, Fk, htk, rfl, hOk, hRk, hFk, hle⟩⟩)
      clear htk hOk hRk hFk hon hcnt hle
      go_wp2
      go_ret
      exact HFIN.out
end Go.Proofs.YtfbpfgbmlbkffaaGreat
