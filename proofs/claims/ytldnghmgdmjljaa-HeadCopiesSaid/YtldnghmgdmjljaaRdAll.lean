/-
  What the laws ask of a reader: bytes and numbers side by side, bytes written over, one read by both. Conditions: the readers lie where they are said to.
-/
import Derived.Test.YtldnghmgdmjljaaMr2
import Derived.Deep.QuietTactic
import Derived.BigQuiet
namespace Go.Proofs.Ytldnghmgdmjljaa
open Go.RowKit
set_option linter.unusedSimpArgs false
set_option maxRecDepth 100000
set_option linter.unusedVariables false
theorem same_any (A A' : Option Addr) (n n' c c' B B' : Nat) (bs bs' : List Nat) (w : World) (h : Bytes w B A n bs) (h' : Bytes w B' A' n' bs') :
    Calls Try.prog 17 #[.slice A n c, .slice A' n' c'] w fun e w' => ∃ b, e = .returned (.bool b) ∧ (bs = bs' → b = true) ∧ w = w' := by
  have k1 := str_of (P := Try.prog) h c 23 9 5 Try.underlying23 Try.underlying5 Try.underlying9
  have k2 := str_of (P := Try.prog) h' c' 23 9 5 Try.underlying23 Try.underlying5 Try.underlying9
  obtain ⟨s1, hs1⟩ : ∃ s, s = strOf bs := ⟨_, rfl⟩
  obtain ⟨s2, hs2⟩ : ∃ s, s = strOf bs' := ⟨_, rfl⟩
  rw [← hs1] at k1
  rw [← hs2] at k2
  have HE : Hid (bs = bs' → s1 = s2) := Lib.hid (fun e => by rw [hs1, hs2, e])
  clear hs1 hs2 h h'
  go_enter Try.func17, Try.ntmps17
  go_wp2
  go_ret
  exact ⟨_, rfl, fun e => by simp [HE.out e], rfl⟩
/-- the bytes of a row of the call's own are written over -/
theorem over_any (w : World) (base : Nat) (v : Value) (n : Nat) (bs : List Nat) (h : Own w base v n bs) (hlt : ∀ b ∈ bs, b < 256) (hn : n ≤ 10000000) :
    Calls Try.prog 23 #[v] w fun e w' => e = .returned (.tuple #[]) ∧ Only (rowOf v) w w' := by
  obtain ⟨A, c, rfl, hnc, hcm, hA⟩ := h.form
  have H := Lib.hid (And.intro h hlt)
  clear h hlt
  go_enter Try.func23, Try.ntmps23
  go_wp2
  go_loopw [5] (fun i wr => ∃ (k : Nat) (cs : List Nat), k ≤ n ∧ i = .int .i64 k ∧ Own wr base (.slice A n c) n cs ∧ (∀ b ∈ cs, b < 256) ∧ Only (rowOf (.slice A n c)) w wr) (fun i _ => n - (intOf i).toNat)
  case atStart => exact ⟨0, bs, Nat.zero_le _, rfl, H.out.1, H.out.2, Only.refl _ _⟩
  case round =>
    obtain ⟨k, cs, hk, rfl, ho, hcs, hy⟩ := hrel
    by_cases hlt : k < n
    · obtain ⟨g, rfl, hbg, -⟩ : ∃ g, A = some ⟨g, 0, none⟩ ∧ base ≤ g ∧ True := by
        rcases hA with ⟨rfl, h0, _⟩ | ⟨g, h1, h2, _⟩
        · omega
        · exact ⟨g, h1, h2, trivial⟩
      have hkl : k < cs.length := by have := ho.len; omega
      obtain ⟨b, hb⟩ : ∃ b, cs[k]? = some b := ⟨_, List.getElem?_eq_getElem hkl⟩
      have hb256 := hcs b (List.mem_of_getElem? hb)
      have hc := ho.cell hb
      have hf := ho.frozen k
      have hx : bits .xor .u8 (b : Int) 255 = ((b ^^^ 255 : Nat) : Int) := u8_xor_nat b 255 hb256 (by omega)
      have hx256 : b ^^^ 255 < 256 := Nat.xor_lt_two_pow (n := 8) (by omega) (by omega)
      have Ho := Lib.hid ho
      have Hcs := Lib.hid hcs
      have Hy := Lib.hid hy
      have hk0 : (0 : Int) ≤ (k : Int) := by omega
      have hk1 : (k : Int) < (n : Int) := by omega
      clear ho hcs hy hb
      go_wp2
      refine ⟨⟨k + 1, cs.set k (b ^^^ 255), by omega, by go_num, Ho.out.stored k _, fun x hm => ?_, Hy.out.setCell (.inl (by simp [rowOf, Value.ownBlock])) _⟩, by simp only [intOf]; omega⟩
      rcases List.mem_or_eq_of_mem_set hm with hm | rfl
      · exact Hcs.out x hm
      · exact hx256
    · have Hy := Lib.hid hy
      clear hy ho
      go_wp2
      refine bodyPost_end (results_none rfl _ _ _) rfl ?_
      exact ⟨rfl, Hy.out⟩
/-- the state behind a reading -/
def RD.to (s : RD) (kind : Int) : RD := if kind = 0 then s.take 1 else if kind = 2 then s.flagTo else if kind = 3 then s.bytesTo else if kind = 4 then s.bytesTo else if kind = 5 then s.numsTo else s.take 8
theorem RD.got_le' (s : RD) (n : Int) : (s.got n).length ≤ s.bs.length := RD.got_le s n
theorem RD.to_le (s : RD) (kind : Int) : (s.to kind).bs.length ≤ s.bs.length := by
  have h8 := RD.take_le s 8
  have hb : s.bytesTo.bs.length ≤ s.bs.length := Nat.le_trans (RD.take_le _ _) h8
  have hrun : ∀ k, (RD.run k (s.take 8)).bs.length ≤ (s.take 8).bs.length := fun k => by
    induction k with
    | zero => exact Nat.le_refl _
    | succ k ih => exact Nat.le_trans (RD.take_le _ 8) ih
  unfold RD.to
  repeat' split
  · exact RD.take_le s 1
  · unfold RD.flagTo
    split
    · simp [RD.spoilt]
    · exact RD.take_le s 1
  · exact hb
  · exact hb
  · unfold RD.numsTo
    split
    · exact Nat.le_trans (hrun _) h8
    · simp [RD.spoilt]
  · exact h8
theorem RD.take_notbad {s : RD} {n : Int} (h : (s.take n).bad = false) : s.fits n = true := by
  cases hf : s.fits n with
  | true => rfl
  | false => simp [RD.take, hf, RD.spoilt] at h
/-- a flag that was read counts as the reader isn't bad: if it is bad there was none -/
theorem RD.flag_bad (s : RD) : (s.flag && !s.flagTo.bad) = s.flag := by
  cases hf : s.flag with
  | false => rfl
  | true =>
    have h1 : s.byte = 1 := by simpa [RD.flag] using hf
    have hto : s.flagTo = s.take 1 := by unfold RD.flagTo; rw [if_neg (by omega)]
    have hb : (s.take 1).bad = false := by
      cases hfit : s.fits 1 with
      | true => simp [RD.take, hfit]
      | false => simp [RD.byte, RD.got, hfit] at h1
    rw [hto, hb]
    rfl
/-- both readers, apart -/
structure Both (w : World) (base : Nat) (F : List Nat) (p : Option Addr) (s : RD) (g : Nat) (t : RD) : Prop where
  rd : Rd w base F p s
  mr : Mr w base g t
  apart : g ∉ F
def BTo (w : World) (base : Nat) (F : List Nat) (p : Option Addr) (s : RD) (g : Nat) (t : RD) (w' : World) : Prop := ∃ F', Both w' base F' p s g t ∧ Only (g :: F) w w' ∧ Fresh w F F'
section
variable {w w1 w' : World} {base g : Nat} {F F1 : List Nat} {p : Option Addr} {s t : RD}
theorem Both.below (h : Both w base F p s g t) (hb : Below w.heap.size w w') : Both w' base F p s g t := ⟨h.rd.below hb, h.mr.below hb, h.apart⟩
theorem Both.one (h : Both w base F p s g t) {s' : RD} (r : Rd w1 base F1 p s') (o : Only F w w1) (f : Fresh w F F1) : Both w1 base F1 p s' g t :=
  ⟨r, h.mr.of (o.below h.rd.over (Nat.le_of_lt (Nat.lt_of_le_of_lt h.mr.over h.mr.lt))) (o.block g h.mr.lt h.apart), fun hm => by
    rcases f _ hm with h' | h'
    · exact h.apart h'
    · have := h.mr.lt; omega⟩
theorem Both.two (h : Both w base F p s g t) {t' : RD} (m : Mr w1 base g t') (o : Only [g] w w1) : Both w1 base F p s g t' :=
  ⟨h.rd.of o.size (fun k hk => o.block k (h.rd.under k hk) (fun hm => h.apart (by simp at hm; subst hm; exact hk))), m, h.apart⟩
theorem BTo.stay (h : Both w base F p s g t) : BTo w base F p s g t w := ⟨F, h, Only.refl _ _, Fresh.refl _ _⟩
theorem BTo.then_ (h : BTo w base F p s g t w1) (hb : Below w1.heap.size w1 w') : BTo w base F p s g t w' := by
  obtain ⟨F2, h1, h2, h3⟩ := h
  exact ⟨F2, h1.below hb, h2.trans (Only.of_below hb (g :: F2)) (fun k hk => (List.mem_cons.1 hk).elim (fun e => .inl (by simp [e])) (fun hk => (h3 k hk).imp (List.mem_cons_of_mem _) id)), h3⟩
theorem BTo.two (h : BTo w base F p s g t w1) {t' : RD} (m : Mr w' base g t') (o : Only [g] w1 w') : BTo w base F p s g t' w' := by
  obtain ⟨F2, h1, h2, h3⟩ := h
  exact ⟨F2, h1.two m o, h2.trans o (fun k hk => .inl (by simp at hk; simp [hk])), h3⟩
theorem BTo.of_one (h : Both w base F p s g t) {s' : RD} (r : RTo w base F p s' w1) : BTo w base F p s' g t w1 := by
  obtain ⟨F1, r, o, f⟩ := r
  exact ⟨F1, h.one r o f, o.mono (fun k hk => List.mem_cons_of_mem _ hk), f⟩
theorem BTo.now (h : BTo w base F p s g t w1) : ∃ F2, Both w1 base F2 p s g t := by obtain ⟨F2, h1, _⟩ := h; exact ⟨F2, h1⟩
end
end Go.Proofs.Ytldnghmgdmjljaa
