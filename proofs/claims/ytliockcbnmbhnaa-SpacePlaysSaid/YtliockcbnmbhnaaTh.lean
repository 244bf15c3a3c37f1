/-
  The laws' fixed fact: the chapter's example. No condition.
-/
import Derived.Test.YtliockcbnmbhnaaTg
namespace Go.Proofs.Ytliockcbnmbhnaa
open Go.RowKit Go.BigFrame
set_option linter.unusedSimpArgs false
set_option linter.unusedVariables false
/-- a space that a law has made -/
structure Sps (w W : World) (g r c : Nat) (A : Option Addr) (fl : List Bool) : Prop where
  at_ : SAt W g r A c fl (cnt fl)
  ne : g ≠ r
  bel : Below w.heap.size w W
  gl : w.heap.size ≤ g
  rl : w.heap.size ≤ r
section
variable {w W W' : World} {g r c : Nat} {A : Option Addr} {fl fl' : List Bool}
theorem Sps.below (h : Sps w W g r c A fl) (b : Below W.heap.size W W') : Sps w W' g r c A fl :=
  ⟨h.at_.of (b.block g h.at_.blk.lt) (fun _ _ hx => b.block r hx.lt), h.ne, h.bel.trans (b.mono h.bel.size), h.gl, h.rl⟩
theorem Sps.only (h : Sps w W g r c A fl) (o : Only [g, r] W W') (s : SAt W' g r A c fl' (cnt fl')) : Sps w W' g r c A fl' :=
  ⟨s, h.ne, h.bel.trans (o.below (fun k hk => by simp at hk; exact hk.elim (fun e => e ▸ h.gl) (fun e => e ▸ h.rl)) h.bel.size), h.gl, h.rl⟩
theorem Sps.apart {F : List Nat} (h : Sps w W g r c A fl) (o : Only F W W') (hF : ∀ k ∈ F, w.heap.size ≤ k) (hg : g ∉ F) (hr : r ∈ F → W.heap.size ≤ r) : Sps w W' g r c A fl :=
  ⟨h.at_.of (o.block g h.at_.blk.lt hg) (fun _ _ hx => o.block r hx.lt (fun hm => by have := hr hm; have := hx.lt; omega)), h.ne, h.bel.trans (o.below hF h.bel.size), h.gl, h.rl⟩
instance (e : Int × Int) : Decidable (InI e) := inferInstanceAs (Decidable ((_ ∧ _) ∧ _ ∧ _))
end
theorem turn_far {w W' : World} {g r r' c : Nat} {A : Option Addr} {es : List (Int × Int)} {b : Bool} {e : Ending} (hr : w.heap.size ≤ r') (h : TurnTo w g r' c A [] es b e W') : TurnTo w g r c A [] es b e W' := by
  obtain ⟨ho, h⟩ := h
  refine ⟨⟨ho.os, ho.tape, ho.output, ho.size, fun i hi hn => ho.block i hi (by simp at hn ⊢; omega)⟩, ?_⟩
  have hs : ∀ fl left, fl = [] → SAt W' g r' A c fl left → SAt W' g r A c fl left := fun fl left e h => ⟨h.blk, h.cap, h.lim, .inl e⟩
  rcases h with ⟨ns, h1, h2, h3⟩ | ⟨h1, h2, h3⟩
  · exact .inl ⟨ns, h1, h2, hs _ _ (List.eq_nil_of_length_eq_zero (by rw [h1.2.2.len]; rfl)) h3⟩
  · exact .inr ⟨h1, h2, hs _ _ rfl h3⟩
theorem claim_at {w : World} {g r c B : Nat} {A : Option Addr} {fl : List Bool} (es : List (Int × Int)) (hI : ∀ e ∈ es, InI e) (h : SAt w g r A c fl (cnt fl)) (hgr : g ≠ r) (E : Option Addr) (c' : Nat) (hc' : es.length ≤ c') (hR : ExtR w B E es) (hB : B ≤ w.heap.size)
    (hfar : ∀ ad, E = some ad → ad.block ≠ g ∧ (fl ≠ [] → ad.block ≠ r)) (hle : es.length ≤ 65536) :
    Calls Try.prog 20 #[.pointer (some ⟨g, 0, none⟩), .slice E es.length c'] w (TurnTo w g r c A fl es false) := by
  by_cases hf : fl = []
  · subst hf
    obtain ⟨eb, heb⟩ : ∃ eb, ∀ ad, E = some ad → ad.block = eb := by
      cases E with
      | none => exact ⟨0, fun ad e => by cases e⟩
      | some a => exact ⟨a.block, fun ad e => by injection e with e; rw [e]⟩
    exact (sclaim_any (r := w.heap.size + g + eb + 1) es hI ⟨h.blk, h.cap, h.lim, .inl rfl⟩ (by omega) E c' hc' hR hB (fun ad e => ⟨(hfar ad e).1, by have := heb ad e; omega⟩) hle).mono fun e w' ht => turn_far (by omega) ht
  · exact sclaim_any es hI h hgr E c' hc' hR hB (fun ad e => ⟨(hfar ad e).1, (hfar ad e).2 hf⟩) hle
theorem give_at {w : World} {g r c B : Nat} {A : Option Addr} {fl : List Bool} (es : List (Int × Int)) (hI : ∀ e ∈ es, InI e) (h : SAt w g r A c fl (cnt fl)) (hgr : g ≠ r) (E : Option Addr) (c' : Nat) (hc' : es.length ≤ c') (hR : ExtR w B E es) (hB : B ≤ w.heap.size)
    (hfar : ∀ ad, E = some ad → ad.block ≠ g ∧ (fl ≠ [] → ad.block ≠ r)) (hle : es.length ≤ 65536) :
    Calls Try.prog 18 #[.pointer (some ⟨g, 0, none⟩), .slice E es.length c'] w (TurnTo w g r c A fl es true) := by
  by_cases hf : fl = []
  · subst hf
    obtain ⟨eb, heb⟩ : ∃ eb, ∀ ad, E = some ad → ad.block = eb := by
      cases E with
      | none => exact ⟨0, fun ad e => by cases e⟩
      | some a => exact ⟨a.block, fun ad e => by injection e with e; rw [e]⟩
    exact (sgive_any (r := w.heap.size + g + eb + 1) es hI ⟨h.blk, h.cap, h.lim, .inl rfl⟩ (by omega) E c' hc' hR hB (fun ad e => ⟨(hfar ad e).1, by have := heb ad e; omega⟩) hle).mono fun e w' ht => turn_far (by omega) ht
  · exact sgive_any es hI h hgr E c' hc' hR hB (fun ad e => ⟨(hfar ad e).1, (hfar ad e).2 hf⟩) hle
theorem SAt.rlt {w : World} {g r c : Nat} {A : Option Addr} {fl : List Bool} {left : Int} (h : SAt w g r A c fl left) (hf : fl ≠ []) : r < w.heap.size := by
  rcases h.row with h | ⟨_, cs, h, _⟩
  · exact absurd h hf
  · exact h.lt
theorem rowN (w : World) (es : List (Int × Int)) (cs : List Value) (h : cs = extS es) : ExtR (w.alloc (.cells cs.toArray 45)) (w.heap.size + 1) (some ⟨w.heap.size, 0, none⟩) es := by
  subst h
  exact Reads.newN w (extS es) es.length 2 45 (0, 0) (by rw [extS_len])
theorem all_of (fl : List Bool) (x y : Nat) (b : Bool) (h : x + y ≤ fl.length) (hh : ((fl.drop x).take y).all (· == b) = true) : AllR fl x y b := by
  refine (allR_iff h b).1 fun z hz => ?_
  have := List.all_eq_true.1 hh z hz
  simpa using this
def fl14 : List Bool := List.replicate 14 true
def ex1 : List (Nat × Nat) := [(3, 2), (10, 2)]
theorem ex1_ok : OkA fl14 ex1 false := ⟨all_of _ _ _ _ (by decide) (by decide), all_of _ _ _ _ (by decide) (by decide), trivial⟩
theorem ex1_turn : TurnOk fl14 (natE ex1) false ex1 := ⟨rfl, by decide, ex1_ok⟩
def flx : List Bool := setA fl14 ex1 false
theorem flx_hol : hol 0 flx = [(0, 3), (5, 5), (12, 2)] := by decide
instance (e q : Nat × Nat) : Decidable (Longer e q) := inferInstanceAs (Decidable (_ ∨ _))
instance (e q : Nat × Nat) : Decidable (Shorter e q) := inferInstanceAs (Decidable (_ ∨ _))
instance (L : List (Nat × Nat)) (e : Nat × Nat) : Decidable (Top L e) := inferInstanceAs (Decidable (_ ∧ _))
instance (L : List (Nat × Nat)) (n : Nat) (e : Nat × Nat) : Decidable (Fit L n e) := inferInstanceAs (Decidable (_ ∧ _ ∧ _))
theorem ex_two : Chosen (hol 0 flx) 2 [(12, 2)] := by
  rw [flx_hol]
  exact .fit (e := (12, 2)) (by decide) (by decide)
theorem ex_nine : Chosen (hol 0 flx) 9 [(5, 5), (0, 3), (12, 1)] := by
  rw [flx_hol]
  refine .long (e := (5, 5)) (by decide) (by decide) ?_
  refine .long (e := (0, 3)) (by decide) (by decide) ?_
  exact .fit (e := (12, 2)) (by decide) (by decide)
theorem natE_inj {a b : List (Nat × Nat)} (h : natE a = natE b) : a = b := by
  refine (List.map_inj_right (f := fun e : Nat × Nat => ((e.1 : Int), (e.2 : Int))) (fun p q h => ?_)).1 h
  simp only [Prod.mk.injEq] at h
  exact Prod.ext (by omega) (by omega)
set_option maxRecDepth 100000 in
set_option maxHeartbeats 8000000 in
theorem alive_any (w : World) : Calls Try.prog 8 #[] w fun e w' => e = .returned (.bool true) ∧ Below w.heap.size w w' := by
  go_enter Try.func8, Try.ntmps8
  go_wp2_with fail
  refine (snew_any 14 (by omega) _).mono ?_
  rintro e w1 ⟨p, rfl, g, r, A, c, rfl, hs, hne, hg, hr, hb⟩
  have HS := Lib.hid (show Sps w w1 g r c A fl14 from ⟨hs, hne, hb, hg, hr⟩)
  clear hs hne hg hr hb
  go_wp2_with fail
  have hS1 := HS.out.below ((Below.refl _ _).alloc (Nat.le_refl _) (.cells #[.int .i64 3, .int .i64 2, .int .i64 10, .int .i64 2] 45))
  have hgl := HS.out.at_.blk.lt
  have hrl := HS.out.at_.rlt (by decide)
  refine (claim_at (natE ex1) (by decide) hS1.at_ hS1.ne (some ⟨w1.heap.size, 0, none⟩) 2 (by decide) (rowN w1 (natE ex1) [.int .i64 3, .int .i64 2, .int .i64 10, .int .i64 2] rfl) (by rw [World.size_alloc]; omega) (fun ad e => by injection e with e; subst e; exact ⟨by show w1.heap.size ≠ g; omega, fun _ => by show w1.heap.size ≠ r; omega⟩) (by decide)).mono ?_
  rintro e w2 ⟨ho2, h2⟩
  obtain ⟨rfl, hs2⟩ : e = .returned .nilIface ∧ SAt w2 g r A c flx (cnt flx) := by
    rcases h2 with ⟨ns, ht, rfl, hs2⟩ | ⟨ht, -, -⟩
    · obtain rfl : ns = ex1 := natE_inj ht.1.symm
      exact ⟨rfl, hs2⟩
    · exact absurd ex1_turn (ht _)
  have HS2 : Hid (Sps w w2 g r c A flx) := Lib.hid (hS1.only ho2 hs2)
  clear hS1 hgl hrl ho2 h2 hs2 HS
  go_wp2_with fail
  refine (scopy_any HS2.out.at_).mono ?_
  rintro e w3 ⟨p, rfl, g2, r2, A2, c2, rfl, hs, hne, hg, hr, hb⟩
  have hcnt : cnt flx = 10 := by decide
  have hf : flx ≠ [] := by decide
  have hrl := HS2.out.at_.rlt hf
  have hgl := HS2.out.at_.blk.lt
  have hzb := HS2.out.bel.size
  have HS3 := Lib.hid (HS2.out.below hb)
  have HC3 : Hid (Sps w w3 g2 r2 c2 A2 flx) := Lib.hid ⟨hs, hne, HS2.out.bel.trans (hb.mono hzb), by omega, by omega⟩
  have hrl2 := hs.rlt hf
  have hgl2 := hs.blk.lt
  clear hs hne HS2
  go_wp2_with fail
  refine (stake_any 2 HS3.out.at_ HS3.out.ne).mono ?_
  rintro e w4 ⟨ho4, h4⟩
  obtain ⟨v4, rfl, hv4, hs4⟩ : ∃ v, e = .returned (.tuple #[v, .nilIface]) ∧ OwnE w4 w3.heap.size v (natE [(12, 2)]) ∧ ∃ f, SAt w4 g r A c f (cnt f) := by
    rcases h4 with ⟨h, -⟩ | ⟨h, -⟩ | ⟨k, v, out, hk, -, rfl, h1, h2, h3⟩
    · omega
    · rw [hcnt] at h; omega
    · obtain rfl : k = 2 := by omega
      obtain rfl := h2.one ex_two
      exact ⟨v, rfl, h1, _, h3⟩
  obtain ⟨f4, hs4⟩ := hs4
  have HS4 := Lib.hid (HS3.out.only ho4 hs4)
  have HC4 := Lib.hid (HC3.out.apart ho4 (fun k hk => by simp at hk; exact hk.elim (fun e => e ▸ HS4.out.gl) (fun e => e ▸ HS4.out.rl)) (by simp; omega) (fun hm => by simp at hm; omega))
  have HV4 := Lib.hid hv4
  clear HS3 HC3 ho4 h4 hv4 hs4
  obtain ⟨A4, c4, rfl, -⟩ := HV4.out.form
  go_wp2_with fail
  refine (stake_any 9 HC4.out.at_ HC4.out.ne).mono ?_
  rintro e w5 ⟨ho5, h5⟩
  obtain ⟨v5, rfl, hv5, hs5⟩ : ∃ v, e = .returned (.tuple #[v, .nilIface]) ∧ OwnE w5 w4.heap.size v (natE [(5, 5), (0, 3), (12, 1)]) ∧ ∃ f, SAt w5 g2 r2 A2 c2 f (cnt f) := by
    rcases h5 with ⟨h, -⟩ | ⟨h, -⟩ | ⟨k, v, out, hk, -, rfl, h1, h2, h3⟩
    · omega
    · rw [hcnt] at h; omega
    · obtain rfl : k = 9 := by omega
      obtain rfl := h2.one ex_nine
      exact ⟨v, rfl, h1, _, h3⟩
  obtain ⟨f5, hs5⟩ := hs5
  have HB5 := Lib.hid (HC4.out.only ho5 hs5).bel
  have HV5 := Lib.hid hv5
  have HV4' := Lib.hid (HV4.out.apart (w' := w5) fun k h1 h2 => ho5.block k h2 (by simp; omega))
  clear HC4 HS4 ho5 h5 hv5 hs5 HV4
  obtain ⟨A5, c5, rfl, -⟩ := HV5.out.form
  have hz5 := HB5.out.size
  have hl1 : (natE [(12, 2)]).length = 1 := rfl
  have hl3 : (natE [(5, 5), (0, 3), (12, 1)]).length = 3 := rfl
  have hc1 := lsame_any (B1 := w5.heap.size) (B2 := w5.heap.size + 1) (c1 := c4) (c2 := 1) (natE [(12, 2)]) (natE [(12, 2)]) (w := w5.alloc (.cells #[.int .i64 12, .int .i64 2] 45)) (ExtR.only HV4'.out.ext (F := []) ((Only.refl _ _).alloc _) (Nat.le_refl _) (fun _ _ => by simp)) (rowN w5 (natE [(12, 2)]) [.int .i64 12, .int .i64 2] rfl) (by decide) (by decide) (by rw [World.size_alloc]; omega) (by rw [World.size_alloc]; omega)
  have HC1 := Lib.hid hc1
  clear hc1
  simp only [hl1, hl3] at HC1 ⊢
  go_wp2_with fail
  refine HC1.out.mono ?_
  rintro e w6 ⟨rfl, hb6⟩
  rw [World.size_alloc] at hb6
  have hb56 : Below w5.heap.size w5 w6 := ((Below.refl _ _).alloc (Nat.le_refl _) _).trans (hb6.mono (by omega))
  have hz6 := hb56.size
  have HV5' := Lib.hid (HV5.out.apart (w' := w6) fun k h1 h2 => hb56.block k h2)
  have HB6 := Lib.hid (HB5.out.trans (hb56.mono hz5))
  have hc2 := lsame_any (B1 := w6.heap.size) (B2 := w6.heap.size + 1) (c1 := c5) (c2 := 3) (natE [(5, 5), (0, 3), (12, 1)]) (natE [(5, 5), (0, 3), (12, 1)]) (w := w6.alloc (.cells #[.int .i64 5, .int .i64 5, .int .i64 0, .int .i64 3, .int .i64 12, .int .i64 1] 45)) (ExtR.only HV5'.out.ext (F := []) ((Only.refl _ _).alloc _) (Nat.le_refl _) (fun _ _ => by simp)) (rowN w6 (natE [(5, 5), (0, 3), (12, 1)]) [.int .i64 5, .int .i64 5, .int .i64 0, .int .i64 3, .int .i64 12, .int .i64 1] rfl) (by decide) (by decide) (by rw [World.size_alloc]; omega) (by rw [World.size_alloc]; omega)
  have HC2 := Lib.hid hc2
  clear hc2 HC1 hb6 hb56 HV5 HB5 HV4'
  simp only [hl3] at HC2
  go_wp2_with fail
  refine HC2.out.mono ?_
  rintro e w7 ⟨rfl, hb7⟩
  rw [World.size_alloc] at hb7
  have HB7 := Lib.hid ((HB6.out.alloc HB6.out.size (.cells #[.int .i64 5, .int .i64 5, .int .i64 0, .int .i64 3, .int .i64 12, .int .i64 1] 45)).trans (hb7.mono (by omega)))
  clear hb7 HC2
  go_wp2
  go_ret
  exact ⟨rfl, HB7.out⟩
end Go.Proofs.Ytliockcbnmbhnaa
