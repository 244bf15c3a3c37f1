/-
  What the calls of the program's reader, nil or not, do. Conditions: the reader lies where it is said to.
-/
import Derived.Test.YtldnghmgdmjljaaWr
import Derived.Laws.CopyOwn
namespace Go.Proofs.Ytldnghmgdmjljaa
open Go.RowKit
set_option linter.unusedSimpArgs false
set_option maxRecDepth 100000
set_option linter.unusedVariables false
/-- a reader of the call's own at g -/
def RdAt (w : World) (base : Nat) (F : List Nat) (g : Nat) (s : RD) : Prop :=
  ∃ A c, F = g :: (A.map Addr.block).toList ∧ Blk w g 125 #[.slice A s.bs.length c, .bool s.bad] ∧ Bytes w w.heap.size A s.bs.length s.bs ∧ s.bs.length ≤ c ∧ c ≤ maxLen ∧ base ≤ g ∧ (∀ a, A = some a → base ≤ a.block ∧ a.block < w.heap.size ∧ a.block ≠ g) ∧ s.Good
/-- a reader, nil or of the call's own -/
def Rd (w : World) (base : Nat) (F : List Nat) (p : Option Addr) (s : RD) : Prop := (p = none ∧ F = [] ∧ s = RD.spoilt) ∨ ∃ g, p = some ⟨g, 0, none⟩ ∧ RdAt w base F g s
def RTo (w : World) (base : Nat) (F : List Nat) (p : Option Addr) (s : RD) (w' : World) : Prop := ∃ F', Rd w' base F' p s ∧ Only F w w' ∧ Fresh w F F'
section
variable {w w' w1 : World} {base g : Nat} {F : List Nat} {p : Option Addr} {s : RD}
theorem RdAt.of (h : RdAt w base F g s) (hs : w.heap.size ≤ w'.heap.size) (hk : ∀ k, k ∈ F → w'.heap[k]? = w.heap[k]?) : RdAt w' base F g s := by
  obtain ⟨A, c, rfl, h1, h2, h3, h4, h5, h6, h7⟩ := h
  refine ⟨A, c, rfl, h1.of (hk g (by simp)), ⟨⟨h2.1.1, fun hn => ?_⟩, h2.2⟩, h3, h4, h5, fun a ha => ⟨(h6 a ha).1, Nat.lt_of_lt_of_le (h6 a ha).2.1 hs, (h6 a ha).2.2⟩, h7⟩
  obtain ⟨ad, e, hB, hc⟩ := h2.1.2 hn
  exact ⟨ad, e, Nat.lt_of_lt_of_le hB hs, fun j u hu => (World.cell?_of_block (hk _ (by rw [block_of_add, e]; simp))).trans (hc j u hu)⟩
theorem RdAt.under (h : RdAt w base F g s) : Under w F := by
  obtain ⟨A, c, rfl, h1, h2, h3, h4, h5, h6, h7⟩ := h
  intro k hk
  rcases List.mem_cons.1 hk with rfl | hk
  · exact h1.lt
  · cases A with
    | none => cases hk
    | some a => simp at hk; subst hk; exact (h6 a rfl).2.1
theorem RdAt.over (h : RdAt w base F g s) : Over base F := by
  obtain ⟨A, c, rfl, h1, h2, h3, h4, h5, h6, h7⟩ := h
  intro k hk
  rcases List.mem_cons.1 hk with rfl | hk
  · exact h5
  · cases A with
    | none => cases hk
    | some a => simp at hk; subst hk; exact (h6 a rfl).1
theorem Rd.under (h : Rd w base F p s) : Under w F := by
  rcases h with ⟨_, rfl, _⟩ | ⟨g, _, h⟩
  · exact fun k hk => by cases hk
  · exact h.under
theorem Rd.over (h : Rd w base F p s) : Over base F := by
  rcases h with ⟨_, rfl, _⟩ | ⟨g, _, h⟩
  · exact fun k hk => by cases hk
  · exact h.over
theorem Rd.of (h : Rd w base F p s) (hs : w.heap.size ≤ w'.heap.size) (hk : ∀ k, k ∈ F → w'.heap[k]? = w.heap[k]?) : Rd w' base F p s := by
  rcases h with h | ⟨g, hp, h⟩
  · exact .inl h
  · exact .inr ⟨g, hp, h.of hs hk⟩
theorem Rd.below (h : Rd w base F p s) (hb : Below w.heap.size w w') : Rd w' base F p s := h.of hb.size fun k hk => hb.block k (h.under k hk)
theorem Rd.good (h : Rd w base F p s) : s.Good := by
  rcases h with ⟨_, _, rfl⟩ | ⟨g, _, A, c, _, _, _, _, _, _, _, h⟩
  · exact RD.spoilt_good
  · exact h
theorem Rd.len (h : Rd w base F p s) : s.bs.length ≤ maxLen := by
  rcases h with ⟨_, _, rfl⟩ | ⟨g, _, A, c, _, _, _, h1, h2, _⟩
  · simp [RD.spoilt, maxLen]
  · omega
theorem RTo.after {F1 : List Nat} (ho : Only F w w1) (hf : Fresh w F F1) (h : RTo w1 base F1 p s w') : RTo w base F p s w' := by
  obtain ⟨F2, h1, h2, h3⟩ := h
  exact ⟨F2, h1, ho.trans h2 hf, hf.trans h3 ho.size⟩
theorem RTo.since (hb : Below w.heap.size w w1) (h : RTo w1 base F p s w') : RTo w base F p s w' := h.after (Only.of_below hb F) (Fresh.refl _ _)
theorem RTo.stay (h : Rd w base F p s) : RTo w base F p s w := ⟨F, h, Only.refl _ _, Fresh.refl _ _⟩
theorem RTo.then_ (h : RTo w base F p s w1) (hb : Below w1.heap.size w1 w') : RTo w base F p s w' := by
  obtain ⟨F2, h1, h2, h3⟩ := h
  exact ⟨F2, h1.below hb, h2.trans (Only.of_below hb F2) h3, h3⟩
end
theorem left_any (w : World) (base : Nat) (F : List Nat) (p : Option Addr) (s : RD) (h : Rd w base F p s) :
    Calls Try.prog 106 #[.pointer p] w fun e w' => e = .returned (.int .i64 s.bs.length) ∧ w = w' := by
  rcases h with ⟨rfl, rfl, rfl⟩ | ⟨g, rfl, A, c, rfl, h1, h2, h3, h4, h5, h6, h7⟩
  · go_enter Try.func106, Try.ntmps106
    go_wp2
    go_ret
    exact ⟨rfl, rfl⟩
  · have hc : w.cell? ⟨g, 0, none⟩ = some (.slice A s.bs.length c) := by rw [h1.cell]; rfl
    go_enter Try.func106, Try.ntmps106
    go_wp2
    go_ret
    exact ⟨rfl, rfl⟩
theorem reader_zero (w : World) : (zeroValue 125).run Try.prog w = .ok (.agg #[.slice none 0 0, .bool false]) w := by kernel_rfl
theorem spoil_any (w : World) (base : Nat) (F : List Nat) (p : Option Addr) (s : RD) (h : Rd w base F p s) :
    Calls Try.prog 101 #[.pointer p] w fun e w' => e = .returned (.tuple #[]) ∧ RTo w base F p RD.spoilt w' := by
  rcases h with ⟨rfl, rfl, rfl⟩ | ⟨g, rfl, A, c, rfl, h1, h2, h3, h4, h5, h6, h7⟩
  · go_enter Try.func101, Try.ntmps101
    go_wp2
    refine bodyPost_end (results_none rfl _ _ _) rfl ?_
    exact ⟨rfl, RTo.stay (.inl ⟨rfl, rfl, rfl⟩)⟩
  · have hc0 : w.cell? ⟨g, 0, none⟩ = some (.slice A s.bs.length c) := by rw [h1.cell]; rfl
    have hc1 : w.cell? ⟨g, 1, none⟩ = some (.bool s.bad) := by rw [h1.cell]; rfl
    have hf0 : w.frozen? ⟨g, 0, none⟩ = false := h1.frozen _
    have hf1 : w.frozen? ⟨g, 1, none⟩ = false := h1.frozen _
    have hz := reader_zero
    go_enter Try.func101, Try.ntmps101
    go_wp2
    refine bodyPost_end (results_none rfl _ _ _) rfl ?_
    have hb2 : Blk ((w.setCell ⟨g, 0, none⟩ (.slice none 0 0)).setCell ⟨g, 1, none⟩ (.bool true)) g 125 #[.slice none 0 0, .bool true] := (h1.set_ 0 _).set_ 1 _
    exact ⟨rfl, [g], .inr ⟨g, rfl, none, 0, rfl, hb2, ⟨Reads.none_, fun b hb => by cases hb⟩, Nat.le_refl _, by simp [maxLen], h5, fun a ha => (by cases ha), RD.spoilt_good⟩,
      ((Only.refl _ _).setCell (.inl (by simp)) _).setCell (.inl (by simp)) _, fun k hk => .inl (by simp at hk; subst hk; simp)⟩
theorem cut_addr (A : Option Addr) (k cap : Nat) (a : Addr) (h : (if cap = k then A else A.map (·.add k)) = some a) : ∃ a', A = some a' ∧ a'.block = a.block := by
  split at h
  · exact ⟨a, h, rfl⟩
  · cases A with
    | none => cases h
    | some a' => simp at h; exact ⟨a', rfl, by rw [← h, block_of_add]⟩
theorem RD.take_fit {s : RD} {k : Nat} (hb : s.bad = false) (hk : k ≤ s.bs.length) : s.take k = ⟨s.bs.drop k, false⟩ ∧ s.got k = s.bs.take k := by
  have : s.fits k = true := by simp [RD.fits, hb]; omega
  simp [RD.take, RD.got, this]
theorem RD.take_un {s : RD} {n : Int} (h : n < 0 ∨ (s.bs.length : Int) < n ∨ s.bad = true) : s.take n = RD.spoilt ∧ s.got n = [] := by
  have : s.fits n = false := by
    simp only [RD.fits, Bool.and_eq_false_iff, Bool.not_eq_false', decide_eq_false_iff_not]
    rcases h with h | h | h
    · exact .inl (.inr (by omega))
    · exact .inr (by omega)
    · exact .inl (.inl h)
  simp [RD.take, RD.got, this]
theorem RD.eta {s : RD} (h : s.Good) (hb : s.bad = true) : s = RD.spoilt := by
  obtain ⟨bs, bad⟩ := s
  have := h.1 hb
  simp at hb this
  subst hb this
  rfl
theorem take_done (w : World) (base g k : Nat) (A : Option Addr) (c : Nat) (s : RD) (h1 : Blk w g 125 #[.slice A s.bs.length c, .bool s.bad]) (h2 : Bytes w w.heap.size A s.bs.length s.bs) (h3 : s.bs.length ≤ c) (h4 : c ≤ maxLen) (h5 : base ≤ g) (h6 : ∀ a, A = some a → base ≤ a.block ∧ a.block < w.heap.size ∧ a.block ≠ g) (h7 : s.Good) (hk : k ≤ s.bs.length) (hbad : s.bad = false) :
    RTo w base (g :: (A.map Addr.block).toList) (some ⟨g, 0, none⟩) ⟨s.bs.drop k, false⟩ (w.setCell ⟨g, 0, none⟩ (.slice (if c = k then A else A.map (·.add k)) (s.bs.length - k) (c - k))) ∧
    Bytes (w.setCell ⟨g, 0, none⟩ (.slice (if c = k then A else A.map (·.add k)) (s.bs.length - k) (c - k))) w.heap.size A k (s.bs.take k) := by
  have hset : ∀ (B n : Nat) (A' : Option Addr) (bs : List Nat) (v : Value), Bytes w B A' n bs → (∀ a, A' = some a → a.block ≠ g) → Bytes (w.setCell ⟨g, 0, none⟩ v) B A' n bs := fun B n A' bs v h hne =>
    ⟨⟨h.1.1, fun hn => by
      obtain ⟨ad, e, hB, hc⟩ := h.1.2 hn
      exact ⟨ad, e, hB, fun j u hu => (World.cell?_setCell_other _ _ _ _ (fun e' => hne ad e (by have := congrArg Addr.block e'; rw [block_of_add] at this; exact this.symm))).trans (hc j u hu)⟩⟩, h.2⟩
  have hcut : Bytes w w.heap.size (if c = k then A else A.map (·.add k)) (s.bs.length - k) (s.bs.drop k) := by
    have := h2.1.cut hk h3
    rw [Nat.mul_one, u8s, ← List.map_drop] at this
    exact ⟨this, fun b hb => h2.2 b (List.mem_of_mem_drop hb)⟩
  refine ⟨⟨g :: ((if c = k then A else A.map (·.add k)).map Addr.block).toList, .inr ⟨g, rfl, _, c - k, rfl, ?_, ?_, ?_, by omega, h5, fun a ha => ?_, ?_⟩, (Only.refl _ _).setCell (.inl (by simp)) _, fun j hj => .inl ?_⟩, hset _ _ _ _ _ (h2.take hk) (fun a ha => (h6 a ha).2.2)⟩
  · have := h1.set_ 0 (.slice (if c = k then A else A.map (·.add k)) (s.bs.length - k) (c - k))
    rw [hbad] at this
    simpa using this
  · have := hset _ _ _ _ (.slice (if c = k then A else A.map (·.add k)) (s.bs.length - k) (c - k)) hcut (fun a ha => by
      obtain ⟨a', h, hb⟩ := cut_addr A k c a ha
      rw [← hb]
      exact (h6 a' h).2.2)
    simp only [List.length_drop]
    exact this.more (by simp [World.setCell])
  · simp only [List.length_drop]; omega
  · obtain ⟨a', h, hb⟩ := cut_addr A k c a ha
    rw [← hb]
    have := h6 a' h
    exact ⟨this.1, by simpa [World.setCell] using this.2.1, this.2.2⟩
  · exact ⟨fun e => (by cases e), fun b hb => h7.2 b (List.mem_of_mem_drop hb)⟩
  · rcases List.mem_cons.1 hj with rfl | hj
    · simp
    · refine List.mem_cons_of_mem _ ?_
      simp only [Option.mem_toList, Option.mem_def, Option.map_eq_some_iff] at hj ⊢
      obtain ⟨a, ha, rfl⟩ := hj
      obtain ⟨a', h, hb⟩ := cut_addr A k c a ha
      exact ⟨a', h, hb⟩
theorem take_any (w : World) (base : Nat) (F : List Nat) (p : Option Addr) (s : RD) (n : Int) (h : Rd w base F p s) (hn1 : -9223372036854775808 ≤ n) (hn2 : n ≤ 9223372036854775807) :
    Calls Try.prog 97 #[.pointer p, .int .i64 n] w fun e w' => ∃ A c, e = .returned (.slice A (s.got n).length c) ∧ RTo w base F p (s.take n) w' ∧ (∃ B, Bytes w' B A (s.got n).length (s.got n)) ∧ (∀ a, A = some a → a.block ∈ F) ∧ (A = none → (s.got n).length = 0) := by
  by_cases h0 : n < 0
  · obtain ⟨e1, e2⟩ := RD.take_un (s := s) (.inl h0)
    rw [e1, e2]
    have hd : decide (n < 0) = true := by simpa using h0
    go_enter Try.func97, Try.ntmps97
    go_wp2_with fail
    refine (spoil_any w base F p s h).mono ?_
    rintro e w1 ⟨rfl, r1⟩
    go_wp2
    go_ret
    exact ⟨none, 0, rfl, r1, ⟨0, Reads.none_, fun b hb => by cases hb⟩, fun a ha => (by cases ha), by simp⟩
  · have hd : decide (n < 0) = false := by simpa using h0
    by_cases hl : (s.bs.length : Int) < n
    · obtain ⟨e1, e2⟩ := RD.take_un (s := s) (n := n) (.inr (.inl hl))
      rw [e1, e2]
      have hd2 : decide ((s.bs.length : Int) < n) = true := by simpa using hl
      go_enter Try.func97, Try.ntmps97
      go_wp2_with fail
      refine (left_any w base F p s h).mono ?_
      rintro e w1 ⟨rfl, rfl⟩
      go_wp2_with fail
      refine (spoil_any w base F p s h).mono ?_
      rintro e w1 ⟨rfl, r1⟩
      go_wp2
      go_ret
      exact ⟨none, 0, rfl, r1, ⟨0, Reads.none_, fun b hb => by cases hb⟩, fun a ha => (by cases ha), by simp⟩
    · have hd2 : decide ((s.bs.length : Int) < n) = false := by simpa using hl
      obtain ⟨k, rfl⟩ := Int.eq_ofNat_of_zero_le (show 0 ≤ n by omega)
      by_cases hk0 : k = 0
      · subst hk0
        have hd3 : (((0 : Nat) : Int) == 0) = true := rfl
        have e1 : s.take ((0 : Nat) : Int) = s ∧ s.got ((0 : Nat) : Int) = [] := by
          cases hb : s.bad with
          | true => rw [RD.eta h.good hb]; exact ⟨rfl, rfl⟩
          | false =>
            obtain ⟨e1, e2⟩ := RD.take_fit (k := 0) hb (Nat.zero_le _)
            rw [e1, e2]
            obtain ⟨bs, bad⟩ := s
            simp at hb
            subst hb
            exact ⟨rfl, rfl⟩
        rw [e1.1, e1.2]
        go_enter Try.func97, Try.ntmps97
        go_wp2_with fail
        refine (left_any w base F p s h).mono ?_
        rintro e w1 ⟨rfl, rfl⟩
        go_wp2
        go_ret
        exact ⟨none, 0, rfl, RTo.stay h, ⟨0, Reads.none_, fun b hb => by cases hb⟩, fun a ha => (by cases ha), by simp⟩
      · have hd3 : ((k : Int) == 0) = false := by simp; omega
        have hkl : k ≤ s.bs.length := by omega
        have hbad : s.bad = false := by
          cases hb : s.bad with
          | false => rfl
          | true => have := h.good.1 hb; rw [this] at hkl; simp at hkl; omega
        obtain ⟨e1, e2⟩ := RD.take_fit hbad hkl
        rw [e1, e2]
        have hlc := left_any w base F p s h
        rcases h with ⟨rfl, rfl, rfl⟩ | ⟨g, rfl, A, c, rfl, h1, h2, h3, h4, h5, h6, h7⟩
        · simp [RD.spoilt] at hkl; omega
        · have hc0 : w.cell? ⟨g, 0, none⟩ = some (.slice A s.bs.length c) := by rw [h1.cell]; rfl
          have hf0 : w.frozen? ⟨g, 0, none⟩ = false := h1.frozen _
          unfold maxLen at h4
          have q1 : (0 : Int) ≤ (k : Int) := by omega
          have q2 : (k : Int) ≤ (c : Int) := by omega
          have q3 : (k : Int) ≤ (s.bs.length : Int) := by omega
          have hkc : k ≤ c := by omega
          go_enter Try.func97, Try.ntmps97
          go_wp2_with fail
          refine hlc.mono ?_
          rintro e w1 ⟨he, hw⟩
          subst hw
          subst he
          have hdone := take_done w base g k A c s h1 h2 h3 h4 h5 h6 h7 hkl hbad
          have hlen : (s.bs.take k).length = k := by rw [List.length_take]; omega
          have hAF : ∀ a, A = some a → a.block ∈ g :: (A.map Addr.block).toList := fun a ha => by subst ha; simp
          have hAn : A = none → (s.bs.take k).length = 0 := fun ha => by
            subst ha
            obtain ⟨_, h, _⟩ := h2.1.2 (by omega)
            cases h
          have HD := Lib.hid hdone
          have HAF := Lib.hid hAF
          have HAn := Lib.hid hAn
          clear hdone hAF hAn
          by_cases hck : c = k
          · have hHD := HD.out
            rw [if_pos hck] at hHD
            have HD2 := Lib.hid hHD
            clear hHD HD
            subst hck
            go_wp2
            go_ret
            rw [hlen]
            have := HD2.out
            rw [Nat.sub_self, show s.bs.length - c = 0 by omega] at this
            exact ⟨A, _, rfl, this.1, ⟨_, this.2⟩, HAF.out, by rw [← hlen]; exact HAn.out⟩
          · have hHD := HD.out
            rw [if_neg hck] at hHD
            have HD2 := Lib.hid hHD
            clear hHD HD
            go_wp2
            go_ret
            rw [hlen]
            exact ⟨A, _, rfl, HD2.out.1, ⟨_, HD2.out.2⟩, HAF.out, by rw [← hlen]; exact HAn.out⟩
end Go.Proofs.Ytldnghmgdmjljaa
