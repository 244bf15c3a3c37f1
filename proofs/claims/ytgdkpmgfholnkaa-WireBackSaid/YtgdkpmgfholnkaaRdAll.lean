/-
  What the laws ask of a reader: bytes and numbers side by side, bytes written over, one read by both. Conditions: the readers lie where they are said to.
-/
import Derived.Test.YtgdkpmgfholnkaaMr2
import Derived.Deep.QuietTactic
import Derived.BigQuiet
namespace Go.Proofs.Ytgdkpmgfholnkaa
open Go.RowKit
set_option linter.unusedSimpArgs false
set_option linter.unusedVariables false
theorem same_any (A A' : Option Addr) (n n' c c' B B' : Nat) (bs bs' : List Nat) (w : World) (h : Bytes w B A n bs) (h' : Bytes w B' A' n' bs') :
    Calls Try.prog 26 #[.slice A n c, .slice A' n' c'] w fun e w' => ∃ b, e = .returned (.bool b) ∧ (bs = bs' → b = true) ∧ w = w' := by
  have k1 := str_of (P := Try.prog) h c 22 9 5 Try.underlying22 Try.underlying5 Try.underlying9
  have k2 := str_of (P := Try.prog) h' c' 22 9 5 Try.underlying22 Try.underlying5 Try.underlying9
  obtain ⟨s1, hs1⟩ : ∃ s, s = strOf bs := ⟨_, rfl⟩
  obtain ⟨s2, hs2⟩ : ∃ s, s = strOf bs' := ⟨_, rfl⟩
  rw [← hs1] at k1
  rw [← hs2] at k2
  have HE : Hid (bs = bs' → s1 = s2) := Lib.hid (fun e => by rw [hs1, hs2, e])
  clear hs1 hs2 h h'
  go_enter Try.func26, Try.ntmps26
  go_wp2
  go_ret
  exact ⟨_, rfl, fun e => by simp [HE.out e], rfl⟩
theorem ints_any (A A' : Option Addr) (n n' c c' B B' : Nat) (l l' : List Int) (w : World) (h : Ints w B A n l) (h' : Ints w B' A' n' l') (hn : n ≤ 9000000) (hn' : n' ≤ 9000000) :
    Calls Try.prog 29 #[.slice A n c, .slice A' n' c'] w fun e w' => ∃ b, e = .returned (.bool b) ∧ (l = l' → b = true) ∧ Below w.heap.size w w' := by
  have hl := h.len
  have hl' := h'.len
  by_cases hne : n = n'
  · subst hne
    go_enter Try.func29, Try.ntmps29
    go_wp2
    go_loopw [13] (fun i wr => ∃ k : Nat, k ≤ n ∧ i = .int .i64 k ∧ Below w.heap.size w wr) (fun i _ => n - (intOf i).toNat)
    case atStart => exact ⟨0, Nat.zero_le _, rfl, Below.refl _ _⟩
    case round =>
      obtain ⟨k, hk, rfl, hb⟩ := hrel
      by_cases hlt : k < n
      · obtain ⟨ad, x, rfl, hx, hc⟩ := (show Ints wr B A n l from Reads.since h hb).at_ hlt
        obtain ⟨ad', x', rfl, hx', hc'⟩ := (show Ints wr B' A' n l' from Reads.since h' hb).at_ hlt
        have hk0 : (0 : Int) ≤ (k : Int) := by omega
        have hk1 : (k : Int) < (n : Int) := by omega
        have Hx := Lib.hid hx
        have Hx' := Lib.hid hx'
        have Hb := Lib.hid hb
        clear hx hx' hb
        go_wp2_with fail
        by_cases hxx : x = x'
        · have hd : (x != x') = false := by simpa using hxx
          subst hxx
          go_quiet (fail)
          go_wp2
          exact ⟨⟨k + 1, by omega, by go_num, below_drewN Hb.out _⟩, by simp only [intOf]; omega⟩
        · have hd : (x != x') = true := by simpa using hxx
          go_quiet (fail)
          go_wp2
          go_ret
          exact ⟨false, rfl, fun e => by
            have h1 := Hx.out
            have h2 := Hx'.out
            rw [e, h2] at h1
            injection h1 with h1
            exact absurd h1.symm hxx, below_drewN Hb.out _⟩
      · go_wp2
        go_ret
        exact ⟨_, rfl, fun _ => rfl, hb⟩
  · have hd : ((n : Int) != (n' : Int)) = true := by simp; omega
    go_enter Try.func29, Try.ntmps29
    go_wp2
    go_ret
    exact ⟨_, rfl, fun e => absurd (by rw [← hl, ← hl', e]) hne, Below.refl _ _⟩
/-- the bytes of a row of the call's own are written over -/
theorem over_any (w : World) (base : Nat) (v : Value) (n : Nat) (bs : List Nat) (h : Own w base v n bs) (hlt : ∀ b ∈ bs, b < 256) (hn : n ≤ 10000000) :
    Calls Try.prog 8 #[v] w fun e w' => e = .returned (.tuple #[]) ∧ Only (rowOf v) w w' := by
  obtain ⟨A, c, rfl, hnc, hcm, hA⟩ := h.form
  have H := Lib.hid (And.intro h hlt)
  clear h hlt
  go_enter Try.func8, Try.ntmps8
  go_wp2
  go_loopw [5] (fun i wr => ∃ (k : Nat) (cs : List Nat), k ≤ n ∧ i = .int .i64 k ∧ Own wr base (.slice A n c) n cs ∧ (∀ b ∈ cs, b < 256) ∧ Only (rowOf (.slice A n c)) w wr) (fun i _ => n - (intOf i).toNat)
  case atStart => exact ⟨0, bs, Nat.zero_le _, rfl, H.out.1, H.out.2, Only.refl _ _⟩
  case round =>
    obtain ⟨k, cs, hk, rfl, ho, hcs, hy⟩ := hrel
    by_cases hlt : k < n
    · obtain ⟨g, rfl, hbg, -⟩ : ∃ g, A = some ⟨g, 0, none⟩ ∧ base ≤ g ∧ True := by
        rcases hA with ⟨rfl, h0, _⟩ | ⟨g, h1, h2, _⟩
        · omega
        · exact ⟨g, h1, h2, trivial⟩
      have hkl : k < cs.length := by have := ho.len; omega
      obtain ⟨b, hb⟩ : ∃ b, cs[k]? = some b := ⟨_, List.getElem?_eq_getElem hkl⟩
      have hb256 := hcs b (List.mem_of_getElem? hb)
      have hc := ho.cell hb
      have hf := ho.frozen k
      have hx : bits .xor .u8 (b : Int) 255 = ((b ^^^ 255 : Nat) : Int) := u8_xor_nat b 255 hb256 (by omega)
      have hx256 : b ^^^ 255 < 256 := Nat.xor_lt_two_pow (n := 8) (by omega) (by omega)
      have Ho := Lib.hid ho
      have Hcs := Lib.hid hcs
      have Hy := Lib.hid hy
      have hk0 : (0 : Int) ≤ (k : Int) := by omega
      have hk1 : (k : Int) < (n : Int) := by omega
      clear ho hcs hy hb
      go_wp2
      refine ⟨⟨k + 1, cs.set k (b ^^^ 255), by omega, by go_num, Ho.out.stored k _, fun x hm => ?_, Hy.out.setCell (.inl (by simp [rowOf, Value.ownBlock])) _⟩, by simp only [intOf]; omega⟩
      rcases List.mem_or_eq_of_mem_set hm with hm | rfl
      · exact Hcs.out x hm
      · exact hx256
    · have Hy := Lib.hid hy
      clear hy ho
      go_wp2
      refine bodyPost_end (results_none rfl _ _ _) rfl ?_
      exact ⟨rfl, Hy.out⟩
/-- the state behind a reading -/
def RD.to (s : RD) (kind : Int) : RD := if kind = 0 then s.take 1 else if kind = 2 then s.flagTo else if kind = 3 then s.bytesTo else if kind = 4 then s.bytesTo else if kind = 5 then s.numsTo else s.take 8
theorem RD.got_le' (s : RD) (n : Int) : (s.got n).length ≤ s.bs.length := RD.got_le s n
theorem RD.to_le (s : RD) (kind : Int) : (s.to kind).bs.length ≤ s.bs.length := by
  have h8 := RD.take_le s 8
  have hb : s.bytesTo.bs.length ≤ s.bs.length := Nat.le_trans (RD.take_le _ _) h8
  have hrun : ∀ k, (RD.run k (s.take 8)).bs.length ≤ (s.take 8).bs.length := fun k => by
    induction k with
    | zero => exact Nat.le_refl _
    | succ k ih => exact Nat.le_trans (RD.take_le _ 8) ih
  unfold RD.to
  repeat' split
  · exact RD.take_le s 1
  · unfold RD.flagTo
    split
    · simp [RD.spoilt]
    · exact RD.take_le s 1
  · exact hb
  · exact hb
  · unfold RD.numsTo
    split
    · exact Nat.le_trans (hrun _) h8
    · simp [RD.spoilt]
  · exact h8
theorem RD.take_notbad {s : RD} {n : Int} (h : (s.take n).bad = false) : s.fits n = true := by
  cases hf : s.fits n with
  | true => rfl
  | false => simp [RD.take, hf, RD.spoilt] at h
/-- a flag that was read counts as the reader isn't bad: if it is bad there was none -/
theorem RD.flag_bad (s : RD) : (s.flag && !s.flagTo.bad) = s.flag := by
  cases hf : s.flag with
  | false => rfl
  | true =>
    have h1 : s.byte = 1 := by simpa [RD.flag] using hf
    have hto : s.flagTo = s.take 1 := by unfold RD.flagTo; rw [if_neg (by omega)]
    have hb : (s.take 1).bad = false := by
      cases hfit : s.fits 1 with
      | true => simp [RD.take, hfit]
      | false => simp [RD.byte, RD.got, hfit] at h1
    rw [hto, hb]
    rfl
/-- both readers, apart -/
structure Both (w : World) (base : Nat) (F : List Nat) (p : Option Addr) (s : RD) (g : Nat) (t : RD) : Prop where
  rd : Rd w base F p s
  mr : Mr w base g t
  apart : g ∉ F
def BTo (w : World) (base : Nat) (F : List Nat) (p : Option Addr) (s : RD) (g : Nat) (t : RD) (w' : World) : Prop := ∃ F', Both w' base F' p s g t ∧ Only (g :: F) w w' ∧ Fresh w F F'
section
variable {w w1 w' : World} {base g : Nat} {F F1 : List Nat} {p : Option Addr} {s t : RD}
theorem Both.below (h : Both w base F p s g t) (hb : Below w.heap.size w w') : Both w' base F p s g t := ⟨h.rd.below hb, h.mr.below hb, h.apart⟩
theorem Both.one (h : Both w base F p s g t) {s' : RD} (r : Rd w1 base F1 p s') (o : Only F w w1) (f : Fresh w F F1) : Both w1 base F1 p s' g t :=
  ⟨r, h.mr.of (o.below h.rd.over (Nat.le_of_lt (Nat.lt_of_le_of_lt h.mr.over h.mr.lt))) (o.block g h.mr.lt h.apart), fun hm => by
    rcases f _ hm with h' | h'
    · exact h.apart h'
    · have := h.mr.lt; omega⟩
theorem Both.two (h : Both w base F p s g t) {t' : RD} (m : Mr w1 base g t') (o : Only [g] w w1) : Both w1 base F p s g t' :=
  ⟨h.rd.of o.size (fun k hk => o.block k (h.rd.under k hk) (fun hm => h.apart (by simp at hm; subst hm; exact hk))), m, h.apart⟩
theorem BTo.stay (h : Both w base F p s g t) : BTo w base F p s g t w := ⟨F, h, Only.refl _ _, Fresh.refl _ _⟩
theorem BTo.then_ (h : BTo w base F p s g t w1) (hb : Below w1.heap.size w1 w') : BTo w base F p s g t w' := by
  obtain ⟨F2, h1, h2, h3⟩ := h
  exact ⟨F2, h1.below hb, h2.trans (Only.of_below hb (g :: F2)) (fun k hk => (List.mem_cons.1 hk).elim (fun e => .inl (by simp [e])) (fun hk => (h3 k hk).imp (List.mem_cons_of_mem _) id)), h3⟩
theorem BTo.two (h : BTo w base F p s g t w1) {t' : RD} (m : Mr w' base g t') (o : Only [g] w1 w') : BTo w base F p s g t' w' := by
  obtain ⟨F2, h1, h2, h3⟩ := h
  exact ⟨F2, h1.two m o, h2.trans o (fun k hk => .inl (by simp at hk; simp [hk])), h3⟩
theorem BTo.of_one (h : Both w base F p s g t) {s' : RD} (r : RTo w base F p s' w1) : BTo w base F p s' g t w1 := by
  obtain ⟨F1, r, o, f⟩ := r
  exact ⟨F1, h.one r o f, o.mono (fun k hk => List.mem_cons_of_mem _ hk), f⟩
theorem BTo.now (h : BTo w base F p s g t w1) : ∃ F2, Both w1 base F2 p s g t := by obtain ⟨F2, h1, _⟩ := h; exact ⟨F2, h1⟩
end
theorem read_any (w : World) (base : Nat) (F : List Nat) (p : Option Addr) (s : RD) (g : Nat) (t : RD) (kind : Int) (h : Both w base F p s g t) (hB : base ≤ w.heap.size) (hs : s.bs.length ≤ 900000) (ht : t.bs.length ≤ 900000) :
    Calls Try.prog 9 #[.pointer p, .pointer (some ⟨g, 0, none⟩), .int .i64 kind] w fun e w' => ∃ b, e = .returned (.bool b) ∧ (s = t → b = true) ∧ BTo w base F p (s.to kind) g (t.to kind) w' := by
  unfold RD.to
  by_cases k0 : kind = 0
  · have hd0 : (kind == 0) = true := by simpa using k0
    rw [if_pos k0, if_pos k0]
    clear k0
    go_enter Try.func9, Try.ntmps9
    go_wp2_with fail
    refine (rbyte_any w base F p s h.rd hB).mono ?_
    rintro e w1 ⟨rfl, r1⟩
    have T1 := BTo.of_one h r1
    obtain ⟨F1, N1⟩ := T1.now
    have H1 := Lib.hid T1
    clear r1 T1
    go_wp2_with fail
    refine (mbyte_any w1 base g t N1.mr (by omega)).mono ?_
    rintro e w2 ⟨rfl, m2, o2⟩
    have H2 := Lib.hid (H1.out.two m2 o2)
    clear m2 o2
    go_wp2
    go_ret
    exact ⟨_, rfl, fun e => by subst e; simp, H2.out⟩
  · have hd0 : (kind == 0) = false := by simpa using k0
    rw [if_neg k0, if_neg k0]
    by_cases k2 : kind = 2
    · have hd2 : (kind == 2) = true := by simpa using k2
      rw [if_pos k2, if_pos k2]
      clear k2
      have hfb := RD.flag_bad t
      cases hft : t.flag with
      | true =>
        rw [hft] at hfb
        have hfb' : t.flagTo.bad = false := by simpa using hfb
        have HFT := Lib.hid hft
        clear hfb
        go_enter Try.func9, Try.ntmps9
        go_wp2_with fail
        refine (rflag_any w base F p s h.rd hB).mono ?_
        rintro e w1 ⟨rfl, r1⟩
        have T1 := BTo.of_one h r1
        obtain ⟨F1, N1⟩ := T1.now
        have H1 := Lib.hid T1
        clear r1 T1
        go_wp2_with fail
        refine (mflag_any w1 base g t N1.mr (by omega)).mono ?_
        rintro e w2 ⟨rfl, m2, o2⟩
        have hc1 : w2.cell? ⟨g, 1, none⟩ = some (.bool false) := by
          obtain ⟨A, c, k1, -⟩ := m2
          rw [k1.cell, hfb']; rfl
        have H2 := Lib.hid (H1.out.two m2 o2)
        rw [hft]
        clear m2 o2
        go_wp2
        go_ret
        exact ⟨_, rfl, fun e => by subst e; simp [HFT.out], H2.out⟩
      | false =>
        have HFT := Lib.hid hft
        clear hfb
        go_enter Try.func9, Try.ntmps9
        go_wp2_with fail
        refine (rflag_any w base F p s h.rd hB).mono ?_
        rintro e w1 ⟨rfl, r1⟩
        have T1 := BTo.of_one h r1
        obtain ⟨F1, N1⟩ := T1.now
        have H1 := Lib.hid T1
        clear r1 T1
        go_wp2_with fail
        refine (mflag_any w1 base g t N1.mr (by omega)).mono ?_
        rintro e w2 ⟨rfl, m2, o2⟩
        have H2 := Lib.hid (H1.out.two m2 o2)
        rw [hft]
        clear m2 o2
        go_wp2
        go_ret
        exact ⟨_, rfl, fun e => by subst e; simp [HFT.out], H2.out⟩
    · have hd2 : (kind == 2) = false := by simpa using k2
      rw [if_neg k2, if_neg k2]
      by_cases k3 : kind = 3
      · have hd3 : (kind == 3) = true := by simpa using k3
        rw [if_pos k3, if_pos k3]
        clear k3 k2 k0
        go_enter Try.func9, Try.ntmps9
        go_wp2_with fail
        refine (rbytes_any w base F p s h.rd hB (by omega)).mono ?_
        rintro e w1 ⟨v, F1, rfl, hv, r1, o1, f1, hlt1, hvF⟩
        have N1 := h.one r1 o1 f1
        have hFo := h.rd.over
        obtain ⟨A1, c1, rfl, -, -, -⟩ := hv.form
        have HV := Lib.hid (And.intro hv (And.intro hvF hlt1))
        have HN := Lib.hid N1
        have HO := Lib.hid (And.intro o1 f1)
        have hgw : g < w.heap.size := h.mr.lt
        clear hv r1 o1 f1 hvF hlt1 N1
        go_wp2_with fail
        refine (mbytes_any w1 base g t HN.out.mr (by omega)).mono ?_
        rintro e w2 ⟨v2, rfl, hv2, m2, o2⟩
        obtain ⟨A2, c2, rfl, -, -, -⟩ := hv2.form
        have hlt2 := RD.got_lt (RD.take_good h.mr.good 8) t.num
        have hvg : ∀ j ∈ rowOf (.slice A1 s.bytes.length c1), j ≠ g := fun j hj e => by
          have := (World.ownsRow.lt HV.out.1 j (mem_rowOf.1 hj)).1
          omega
        have hV2 : Own w2 w.heap.size (.slice A1 s.bytes.length c1) s.bytes.length s.bytes := row_of HV.out.1 fun j hj => o2.block j (row_under HV.out.1 j hj) (by simpa using hvg j hj)
        have HN2 := Lib.hid (HN.out.two m2 o2)
        have hb1 := hV2.bytes HV.out.2.2
        have hb2 := hv2.bytes hlt2
        have HO2 := Lib.hid o2
        have HV2 := Lib.hid hV2
        clear m2 o2 hv2
        go_wp2_with fail
        refine (same_any A1 A2 _ _ c1 c2 _ _ s.bytes t.bytes w2 hb1 hb2).mono ?_
        rintro e w3 ⟨b, rfl, hbe, rfl⟩
        have HBE := Lib.hid hbe
        have hsl : s.bytes.length ≤ 10000000 := by
          have h1 := RD.got_le (s.take 8) s.num
          have h2 := RD.take_le s 8
          unfold RD.bytes
          omega
        clear hb1 hb2 hbe
        go_wp2_with fail
        refine (over_any w2 w.heap.size _ _ s.bytes HV2.out HV.out.2.2 hsl).mono ?_
        rintro e w4 ⟨rfl, o4⟩
        have N4 : Both w4 base F1 p s.bytesTo g t.bytesTo := by
          have hF1 := HN2.out.rd.under
          refine ⟨HN2.out.rd.of o4.size (fun k hk => o4.block k (hF1 k hk) (fun hm => HV.out.2.1 k (mem_rowOf.1 hm) hk)), HN2.out.mr.of (o4.below (fun k hk => Nat.le_trans hB (World.ownsRow.lt HV2.out k (mem_rowOf.1 hk)).1) (Nat.le_of_lt (Nat.lt_of_le_of_lt HN2.out.mr.over HN2.out.mr.lt))) (o4.block g HN2.out.mr.lt (fun hm => hvg g hm rfl)), HN2.out.apart⟩
        have O4 : Only (g :: F) w w4 := by
          have hv0 := fun k hk => (World.ownsRow.lt HV2.out k (mem_rowOf.1 hk)).1
          exact ((HO.out.1.mono (fun k hk => List.mem_cons_of_mem _ hk)).trans HO2.out (fun k hk => .inl (by simp at hk; simp [hk]))).trans o4 (fun k hk => .inr (hv0 k hk))
        have HR := Lib.hid (And.intro N4 (And.intro O4 HO.out.2))
        clear o4 N4 O4
        go_wp2
        go_ret
        exact ⟨b, rfl, fun e => HBE.out (by rw [e]), F1, HR.out⟩
      · have hd3 : (kind == 3) = false := by simpa using k3
        rw [if_neg k3, if_neg k3]
        by_cases k4 : kind = 4
        · have hd4 : (kind == 4) = true := by simpa using k4
          rw [if_pos k4, if_pos k4]
          clear k4 k3 k2 k0
          go_enter Try.func9, Try.ntmps9
          go_wp2_with fail
          refine (rtext_any w base F p s h.rd hB).mono ?_
          rintro e w1 ⟨rfl, r1⟩
          have T1 := BTo.of_one h r1
          obtain ⟨F1, N1⟩ := T1.now
          have H1 := Lib.hid T1
          clear r1 T1
          go_wp2_with fail
          refine (mbytes_any w1 base g t N1.mr (by omega)).mono ?_
          rintro e w2 ⟨v2, rfl, hv2, m2, o2⟩
          obtain ⟨A2, c2, rfl, -, -, -⟩ := hv2.form
          have hlt2 := RD.got_lt (RD.take_good h.mr.good 8) t.num
          have k2 := str_of (P := Try.prog) (hv2.bytes hlt2) c2 22 9 5 Try.underlying22 Try.underlying5 Try.underlying9
          have H2 := Lib.hid (H1.out.two m2 o2)
          obtain ⟨q1, hq1⟩ : ∃ q, q = strOf s.bytes := ⟨_, rfl⟩
          obtain ⟨q2, hq2⟩ : ∃ q, q = strOf t.bytes := ⟨_, rfl⟩
          rw [← hq2] at k2
          rw [← hq1]
          have HE : Hid (s = t → q1 = q2) := Lib.hid (fun e => by rw [hq1, hq2, e])
          clear m2 o2 hv2 hlt2 hq1 hq2
          go_wp2
          go_ret
          exact ⟨_, rfl, fun e => by simp [HE.out e], H2.out⟩
        · have hd4 : (kind == 4) = false := by simpa using k4
          rw [if_neg k4, if_neg k4]
          by_cases k5 : kind = 5
          · have hd5 : (kind == 5) = true := by simpa using k5
            rw [if_pos k5, if_pos k5]
            clear k5 k4 k3 k2 k0
            go_enter Try.func9, Try.ntmps9
            go_wp2_with fail
            refine (rnums_any w base F p s h.rd hB (by omega)).mono ?_
            rintro e w1 ⟨v, rfl, hv, r1⟩
            have T1 := BTo.of_one h r1
            obtain ⟨F1, N1⟩ := T1.now
            have H1 := Lib.hid T1
            obtain ⟨A1, c1, rfl, hA1⟩ := hv.form
            have hgw : g < w.heap.size := h.mr.lt
            have HV := Lib.hid hv
            clear r1 T1 hv
            go_wp2_with fail
            refine (mnums_any w1 base g t N1.mr (by omega)).mono ?_
            rintro e w2 ⟨v2, rfl, hv2, m2, o2⟩
            obtain ⟨A2, c2, rfl, -⟩ := hv2.form
            have H2 := Lib.hid (H1.out.two m2 o2)
            have hi1 : Ints w2 w1.heap.size A1 s.nums.length s.nums := (HV.out.ints).only o2 (fun a ha _ => by have := hA1 a ha; simp; omega)
            have hi2 := hv2.ints
            have hn1 : ∀ u : RD, u.bs.length ≤ 900000 → u.nums.length ≤ 9000000 := fun u hu => by
              unfold RD.nums
              split
              · rename_i hm
                rw [RD.rows_len]
                simp [RD.many] at hm
                have := RD.take_le u 8
                omega
              · simp
            have hna := hn1 s hs
            have hnb := hn1 t ht
            clear m2 o2 hv2 hn1
            go_wp2_with fail
            refine (ints_any A1 A2 _ _ c1 c2 _ _ s.nums t.nums w2 hi1 hi2 hna hnb).mono ?_
            rintro e w3 ⟨b, rfl, hbe, b3⟩
            go_wp2
            go_ret
            exact ⟨b, rfl, fun e => hbe (by rw [e]), H2.out.then_ b3⟩
          · have hd5 : (kind == 5) = false := by simpa using k5
            rw [if_neg k5, if_neg k5]
            clear k5 k4 k3 k2 k0
            go_enter Try.func9, Try.ntmps9
            go_wp2_with fail
            refine (rnum_any w base F p s h.rd hB).mono ?_
            rintro e w1 ⟨rfl, r1⟩
            have T1 := BTo.of_one h r1
            obtain ⟨F1, N1⟩ := T1.now
            have H1 := Lib.hid T1
            clear r1 T1
            go_wp2_with fail
            refine (mnum_any w1 base g t N1.mr (by omega)).mono ?_
            rintro e w2 ⟨rfl, m2, o2⟩
            have H2 := Lib.hid (H1.out.two m2 o2)
            clear m2 o2
            go_wp2
            go_ret
            exact ⟨_, rfl, fun e => by subst e; simp, H2.out⟩
end Go.Proofs.Ytgdkpmgfholnkaa
