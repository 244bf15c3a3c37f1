/-
  The walk of the law SpaceFew. Conditions: the extents read as they are said to.
-/
import Derived.Test.YtliockcbnmbhnaaTh
namespace Go.Proofs.Ytliockcbnmbhnaa
open Go.RowKit Go.BigFrame
set_option linter.unusedSimpArgs false
set_option linter.unusedVariables false
theorem mod200 (x : Int) : ∃ m : Nat, m < 200 ∧ IntKind.i64.wrap ((IntKind.u64.wrap x).tmod 200) = (m : Int) := by
  obtain ⟨y, hy, h0⟩ : ∃ y, y = IntKind.u64.wrap x ∧ 0 ≤ y := ⟨_, rfl, by rw [IntKind.wrap_u64]; omega⟩
  rw [← hy, Int.tmod_eq_emod_of_nonneg h0]
  refine ⟨(y % 200).toNat, by omega, ?_⟩
  rw [IntKind.wrap_i64]
  omega
/-- one extent is claimed -/
def OneTo (w : World) (g r c : Nat) (A : Option Addr) (fl : List Bool) (e : Int × Int) (e' : Ending) (w' : World) : Prop :=
  (∃ ns, TurnOk fl [e] false ns ∧ e' = .returned .nilIface ∧ Sps w w' g r c A (setA fl ns false)) ∨ ((∀ ns, ¬ TurnOk fl [e] false ns) ∧ e' = .returned (errV 1) ∧ Sps w w' g r c A fl)
theorem claim_one {w W : World} {g r c : Nat} {A : Option Addr} {fl : List Bool} (h : Sps w W g r c A fl) (e : Int × Int) (hi : InI e) (o1 : Obj) :
    Calls Try.prog 20 #[.pointer (some ⟨g, 0, none⟩), .slice (some ⟨W.heap.size + 1, 0, none⟩) 1 1] ((W.alloc o1).alloc (.cells (ext1 e).toArray 45)) (OneTo w g r c A fl e) := by
  have h2 := (h.below ((Below.refl _ _).alloc (Nat.le_refl _) o1)).below ((Below.refl _ _).alloc (Nat.le_refl _) (.cells (ext1 e).toArray 45))
  have hex := ext_new (W.alloc o1) e
  have s1 : (W.alloc o1).heap.size = W.heap.size + 1 := World.size_alloc _ _
  have s2 : ((W.alloc o1).alloc (.cells (ext1 e).toArray 45)).heap.size = W.heap.size + 2 := by rw [World.size_alloc, s1]
  rw [s1] at hex
  have hg := h.at_.blk.lt
  refine (claim_at [e] (by intro x hx; simp at hx; subst hx; exact hi) h2.at_ h2.ne (some ⟨W.heap.size + 1, 0, none⟩) 1 (by simp) hex (by rw [s2]; omega) (fun ad ha => by injection ha with ha; subst ha; exact ⟨by show W.heap.size + 1 ≠ g; omega, fun hf => by have := h.at_.rlt hf; show W.heap.size + 1 ≠ r; omega⟩) (by simp)).mono ?_
  rintro e' w' ⟨ho, ⟨ns, h1, h3, h4⟩ | ⟨h1, h3, h4⟩⟩
  · exact .inl ⟨ns, h1, h3, h2.only ho h4⟩
  · exact .inr ⟨h1, h3, h2.only ho h4⟩
/-- the laws' row of holes -/
theorem holes_sps {w W : World} {g r c : Nat} {A : Option Addr} {fl : List Bool} (h : Sps w W g r c A fl) :
    Calls Try.prog 24 #[.pointer (some ⟨g, 0, none⟩)] W fun e w' => ∃ v, e = .returned v ∧ OwnE w' W.heap.size v (natE (hol 0 fl)) ∧ Below W.heap.size W w' :=
  lholes_any (fun w2 hb => holes_from (sholes_any (h.below hb).at_)) (by have h1 := hol_few fl; have h2 := cnt_le fl; have h3 := h.at_.lim; omega)
set_option maxRecDepth 100000 in
set_option maxHeartbeats 8000000 in
theorem spaceFew_walk {w : World} (x : Int) (hx1 : -9223372036854775808 ≤ x) (hx2 : x ≤ 9223372036854775807) (A : Option Addr) (c : Nat) (l : List (Int × Int)) (hm : l.length ≤ c ∧ c ≤ 9223372036854775807) (hR : ExtR w w.heap.size A l) (hI : ∀ e ∈ l, InI e) (n : Int) (hn1 : -9223372036854775808 ≤ n) (hn2 : n ≤ 9223372036854775807) :
    Calls Try.prog 7 #[.int .i64 x, .slice A l.length c, .int .i64 n] w fun e w' => e = .returned (.bool true) ∧ Below w.heap.size w w' := by
  have HR := Lib.hid hR
  have HI := Lib.hid hI
  obtain ⟨m, hm2, hmx⟩ := mod200 x
  clear hR hI
  go_enter Try.func7, Try.ntmps7
  go_wp2_with fail
  refine (alive_any w).mono ?_
  rintro e w1 ⟨rfl, hb1⟩
  have HB1 := Lib.hid hb1
  clear hb1
  by_cases hlong : (30 : Int) < (l.length : Int)
  · have hd : decide ((30 : Int) < (l.length : Int)) = true := decide_eq_true hlong
    go_wp2
    go_ret
    exact ⟨rfl, HB1.out⟩
  · have hd : decide ((30 : Int) < (l.length : Int)) = false := decide_eq_false hlong
    go_wp2_with fail
    refine (snew_any m (by omega) _).mono ?_
    rintro e w2 ⟨p, rfl, g, r, A1, c1, rfl, hs, hne, hg, hr, hb⟩
    have hz1 := HB1.out.size
    have HS := Lib.hid (show Sps w w2 g r c1 A1 (List.replicate m true) from ⟨hs, hne, HB1.out.trans (hb.mono hz1), by omega, by omega⟩)
    clear hs hne hg hr hb
    go_wp2_with fail
    go_loopw [33] (fun i wr => ∃ (k : Nat) (fl : List Bool), k ≤ l.length ∧ i = .int .i64 k ∧ Sps w wr g r c1 A1 fl) (fun i _ => l.length - (intS i).toNat)
    case atStart => exact ⟨0, _, by omega, rfl, HS.out⟩
    case round =>
      obtain ⟨k, fl, hk, rfl, hS⟩ := hrel
      obtain ⟨wo, hwo⟩ : ∃ wo, wo = wr := ⟨_, rfl⟩
      subst hwo
      by_cases hlt : k < l.length
      · obtain ⟨ad, e, rfl, hab, he, a0, a1⟩ := (ExtR.only HR.out (Only.of_below hS.bel []) (Nat.le_refl _) (fun _ _ => by simp)).get hlt
        have HC := Lib.hid (claim_one hS e (HI.out e (List.mem_of_getElem? he)) (.cells #[.int .i64 e.1, .int .i64 e.2] 45))
        have hwk : IntKind.i64.wrap ((k : Int) + 1) = (k : Int) + 1 := by rw [IntKind.wrap_i64]; omega
        have hbe := build_ext e
        clear hS he
        go_wp2_with (refine wpList_load_ext rfl (.tmp 35) rfl _ rfl e a0 a1 ?_)
        refine HC.out.mono ?_
        rintro e3 w3 h3
        obtain ⟨j, fl', rfl, hS'⟩ : ∃ (j : Nat) (fl' : List Bool), e3 = .returned (errV j) ∧ Sps w w3 g r c1 A1 fl' := by
          rcases h3 with ⟨ns, -, rfl, h⟩ | ⟨-, rfl, h⟩
          · exact ⟨0, _, rfl, h⟩
          · exact ⟨1, _, rfl, h⟩
        have HS' := Lib.hid hS'
        clear h3 hS' HC a0 a1
        go_wp2
        go_roundw
        case rel => exact ⟨k + 1, fl', by omega, by go_num, HS'.out⟩
        case measure => simp [intS]; omega
      · have HS1 := Lib.hid hS
        have HH := Lib.hid (holes_sps hS)
        have hfw : (hol 0 fl).length ≤ 65536 := by have h1 := hol_few fl; have h2 := cnt_le fl; have h3 := hS.at_.lim; omega
        have hcl : ∀ e ∈ hol 0 fl, e.2 ≤ 65536 := fun e he => by
          have h1 := (hol_mem fl 0 e.1 e.2 he).2.2.1
          have h3 := hS.at_.lim
          omega
        have HCL := Lib.hid hcl
        clear hS hcl HS
        generalize hL : hol 0 fl = L at *
        have HHL := Lib.hid hL
        clear hL
        have hnl : (natE L).length = L.length := by simp [natE]
        go_wp2_with fail
        refine HH.out.mono ?_
        rintro e4 w4 ⟨v4, rfl, hv4, hb4⟩
        have HS4 := Lib.hid (HS1.out.below hb4)
        have HV4 := Lib.hid hv4
        obtain ⟨A4, c4, rfl, -⟩ := hv4.form
        rw [hnl] at HV4 hv4 ⊢
        have hX4 : ExtR w4 w4.heap.size A4 (natE L) := OwnE.ext (c := c4) (by rw [hnl]; exact hv4)
        have HX4 := Lib.hid hX4
        clear hv4 hb4 HH HS1 hX4
        go_wp2_with fail
        go_loopw [12, 46] (fun lv i wr => ∃ (k lg : Nat), k ≤ L.length ∧ i = .int .i64 k ∧ lv = .int .i64 lg ∧ (lg = 0 ∨ ∃ e ∈ L, e.2 = lg) ∧ Below w4.heap.size w4 wr) (fun _ i _ => L.length - (intS i).toNat)
        case atStart => exact ⟨0, 0, by omega, rfl, rfl, .inl rfl, Below.refl _ _⟩
        case round =>
          obtain ⟨q, lg, hq, rfl, rfl, hlg, hbr⟩ := hrel
          obtain ⟨wp, hwp⟩ : ∃ wp, wp = wr := ⟨_, rfl⟩
          subst hwp
          by_cases hlt2 : q < L.length
          · obtain ⟨ad, e, rfl, hab, he, a0, a1⟩ := (ExtR.only HX4.out (Only.of_below hbr []) (Nat.le_refl _) (fun _ _ => by simp)).get (k := q) (by rw [hnl]; exact hlt2)
            have he2 : e = (((gx L q).1 : Int), ((gx L q).2 : Int)) := by
              simp only [natE, List.getElem?_map, gx_some hlt2, Option.map_some] at he
              injection he with he
              exact he.symm
            subst he2
            have hwk : IntKind.i64.wrap ((q : Int) + 1) = (q : Int) + 1 := by rw [IntKind.wrap_i64]; omega
            have hmem : gx L q ∈ L := List.mem_of_getElem? (gx_some hlt2)
            have HLG := Lib.hid (And.intro hlg hbr)
            clear he hlg hbr
            go_wp2_with (refine wpList_load_ext rfl (.tmp 48) rfl _ rfl _ a0 a1 ?_)
            go_roundw
            case rel =>
              refine ⟨q + 1, if lg < (gx L q).2 then (gx L q).2 else lg, by omega, by go_num, by split <;> rfl, ?_, HLG.out.2.alloc HLG.out.2.size _⟩
              split
              · exact .inr ⟨_, hmem, rfl⟩
              · exact HLG.out.1
            case measure => simp [intS]; omega
          · have hS5 := HS4.out.below hbr
            have HLG := Lib.hid hlg
            have hlg2 : lg ≤ 65536 := by
              rcases hlg with h | ⟨e, he, h⟩
              · omega
              · have := HCL.out e he; omega
            have HS5 := Lib.hid hS5
            have HT := Lib.hid (stake_any n hS5.at_ hS5.ne)
            clear hbr hlg hS5 HS4
            go_wp2_with fail
            refine HT.out.mono ?_
            rintro e6 w6 ⟨ho6, h6⟩
            rcases h6 with ⟨hneg, rfl, hs6⟩ | ⟨hbig, rfl, hs6⟩ | ⟨kk, v6, out, rfl, hkk, rfl, hv6, hch, hs6⟩
            · have HB6 := Lib.hid (HS5.out.only ho6 hs6).bel
              clear ho6 hs6 HT
              simp only [errV]
              go_wp2
              go_ret
              exact ⟨rfl, HB6.out⟩
            · have HB6 := Lib.hid (HS5.out.only ho6 hs6).bel
              clear ho6 hs6 HT
              simp only [errV]
              go_wp2
              go_ret
              exact ⟨rfl, HB6.out⟩
            · have HB6 := Lib.hid (HS5.out.only ho6 hs6).bel
              obtain ⟨A6, c6, rfl, -⟩ := hv6.form
              have hnl6 : (natE out).length = out.length := by simp [natE]
              rw [hnl6]
              rw [HHL.out] at hch
              have hfew := hch.few
              have h1 : out.length ≤ L.length := hfew.1
              have h2 : (kk : Int) ≤ (lg : Int) → out.length ≤ 1 := fun hle => by
                rcases HLG.out with h | ⟨e, he, h⟩
                · have h0 : kk = 0 := by omega
                  subst h0
                  rw [hch.zero]
                  simp
                · exact hfew.2.1 ⟨e, he, by omega⟩
              have h3 : 0 < kk → 0 < out.length := hfew.2.2
              clear ho6 hs6 HT hv6 hch hfew
              have hd1 : decide ((out.length : Int) ≤ (L.length : Int)) = true := decide_eq_true (by omega)
              by_cases hk0 : kk = 0
              · subst hk0
                have hd2 : decide ((lg : Int) < ((0 : Nat) : Int)) = false := decide_eq_false (by omega)
                have hd3 : decide ((out.length : Int) ≤ 1) = true := decide_eq_true (by have := h2 (by omega); omega)
                go_wp2
                go_ret
                exact ⟨rfl, HB6.out⟩
              · have hd5 : decide ((kk : Int) < 1) = false := decide_eq_false (by omega)
                have hd6 : decide ((0 : Int) < (out.length : Int)) = true := decide_eq_true (by have := h3 (by omega); omega)
                have hd7 : decide (0 < out.length) = true := decide_eq_true (by have := h3 (by omega); omega)
                by_cases hgt : (lg : Int) < (kk : Int)
                · have hd2 : decide ((lg : Int) < (kk : Int)) = true := decide_eq_true hgt
                  go_wp2
                  go_ret
                  exact ⟨by rw [← hd7]; rfl, HB6.out⟩
                · have hd2 : decide ((lg : Int) < (kk : Int)) = false := decide_eq_false hgt
                  have hd3 : decide ((out.length : Int) ≤ 1) = true := decide_eq_true (by have := h2 (by omega); omega)
                  go_wp2
                  go_ret
                  exact ⟨by rw [← hd7]; rfl, HB6.out⟩
end Go.Proofs.Ytliockcbnmbhnaa
