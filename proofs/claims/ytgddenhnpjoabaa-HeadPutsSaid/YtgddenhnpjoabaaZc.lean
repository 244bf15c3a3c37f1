/-
  What the program's reader reads as numbers. Conditions: the reader lies where it is said to; it has no more than nine million bytes.
-/
import Derived.Test.YtgddenhnpjoabaaZb
import Derived.Laws.MakeOwn
import Derived.Deep.QuietTactic
import Derived.BigQuiet
import Derived.WideShapes
import Derived.Laws.Strings
import Derived.Deep.LoopGhost
import Derived.Laws.CopyOwn
import Derived.RegionTactic
import Derived.Laws.BitsAllLaws
import Derived.Deep.RegionWith

namespace Go.Proofs.Ytgddenhnpjoabaa
open Go.RowKit
set_option linter.unusedSimpArgs false
set_option maxRecDepth 100000
set_option linter.unusedVariables false
theorem made_same (m k : Nat) (v : Value) (hm : 0 < m) : madeCells (List.replicate m v).toArray k = (List.replicate k v).toArray := by
  unfold madeCells
  apply Array.ext
  · simp
  · intro i h1 h2
    have h3 : i % m < m := Nat.mod_lt _ hm
    have h4 : i % (List.replicate m v).toArray.size < (List.replicate m v).toArray.size := by simpa using h3
    rw [Array.getElem_map, Array.getElem_range, getElem!_pos (List.replicate m v).toArray (i % (List.replicate m v).toArray.size) h4]
    simp
theorem int_info : (Try.prog.info? 3).map (fun i => (i.zero, i.size, i.bytes)) = some (some (.int .i64 0), 1, 8) := by kernel_rfl
/-- numbers of the call's own -/
def OwnI (w : World) (base : Nat) (v : Value) (n : Nat) (l : List Int) : Prop := w.ownsRow base 3 1 v n (i64s l)
theorem OwnI.ints {w : World} {base n c : Nat} {A : Option Addr} {l : List Int} (h : OwnI w base (.slice A n c) n l) : Ints w w.heap.size A n l := Reads.of_own h
theorem OwnI.weaken {w : World} {base base' n : Nat} {v : Value} {l : List Int} (h : OwnI w base v n l) (hb : base' ≤ base) : OwnI w base' v n l := row_weaken h hb
theorem OwnI.form {w : World} {base : Nat} {v : Value} {n : Nat} {l : List Int} (h : OwnI w base v n l) : ∃ (A : Option Addr) (cap : Nat), v = .slice A n cap ∧ ∀ a, A = some a → base ≤ a.block := by
  rcases h.2 with ⟨rfl, hx⟩ | ⟨g, cap, cur, rfl, hbg, hg, hnc, hcm, hcs, hpre⟩
  · have : n = 0 := by have := h.1; rw [hx] at this; simp at this; omega
    subst this
    exact ⟨none, 0, rfl, fun a ha => by cases ha⟩
  · exact ⟨some ⟨g, 0, none⟩, cap, rfl, fun a ha => by injection ha with ha; subst ha; exact hbg⟩
theorem OwnI.of_blk {w : World} {base g n : Nat} {l : List Int} (h : Blk w g 3 (i64s l).toArray) (hl : l.length = n) (hb : base ≤ g) (hn : n ≤ 9000000) : OwnI w base (.slice (some ⟨g, 0, none⟩) n n) n l :=
  ⟨by rw [i64s_length]; omega, .inr ⟨g, n, _, rfl, hb, h, Nat.le_refl _, by simp [maxLen]; omega, by simp [i64s_length, hl], by rw [List.take_of_length_le (by simp [i64s_length, hl])]⟩⟩
def filling (l : List Int) (q : Nat) : List Value := i64s l ++ List.replicate (q - l.length) (.int .i64 0)
theorem filling_set (l : List Int) (q : Nat) (x : Int) (h : l.length < q) : (filling l q).toArray.setIfInBounds l.length (.int .i64 x) = (filling (l ++ [x]) q).toArray := by
  unfold filling
  have e : q - l.length = (q - (l ++ [x]).length) + 1 := by simp; omega
  rw [e, List.replicate_succ]
  simp only [List.setIfInBounds_toArray]
  congr 1
  rw [List.set_append_right _ _ (by rw [i64s_length]; exact Nat.le_refl _), i64s_length, Nat.sub_self, List.set_cons_zero]
  simp [i64s]
theorem filling_cell (l : List Int) (q : Nat) (h : l.length < q) : (filling l q).toArray[l.length]? = some (.int .i64 0) := by
  unfold filling
  rw [List.getElem?_toArray, List.getElem?_append_right (by rw [i64s_length]; exact Nat.le_refl _), i64s_length, Nat.sub_self, List.getElem?_replicate, if_pos (by omega)]
end Go.Proofs.Ytgddenhnpjoabaa

/-
  The document's reader. Conditions: it lies where it is said to; its bytes lie below what the call may write.
-/
namespace Go.Proofs.Ytgddenhnpjoabaa
open Go.RowKit
set_option linter.unusedSimpArgs false
set_option maxRecDepth 100000
set_option linter.unusedVariables false
def Mr (w : World) (base g : Nat) (s : RD) : Prop :=
  ∃ A c, Blk w g 108 #[.slice A s.bs.length c, .bool s.bad] ∧ Bytes w base A s.bs.length s.bs ∧ s.bs.length ≤ c ∧ c ≤ maxLen ∧ base ≤ g ∧ s.Good
section
variable {w w' : World} {base g : Nat} {s : RD}
theorem Mr.of (h : Mr w base g s) (hb : Below base w w') (hk : w'.heap[g]? = w.heap[g]?) : Mr w' base g s := by
  obtain ⟨A, c, h1, h2, r⟩ := h
  exact ⟨A, c, h1.of hk, h2.below hb, r⟩
theorem Mr.lt (h : Mr w base g s) : g < w.heap.size := by
  obtain ⟨A, c, h1, _⟩ := h
  exact h1.lt
theorem Mr.over (h : Mr w base g s) : base ≤ g := by
  obtain ⟨A, c, _, _, _, _, h, _⟩ := h
  exact h
theorem Mr.good (h : Mr w base g s) : s.Good := by
  obtain ⟨A, c, _, _, _, _, _, h⟩ := h
  exact h
theorem Mr.below (h : Mr w base g s) (hb : Below w.heap.size w w') : Mr w' base g s :=
  h.of (hb.mono (Nat.le_of_lt (Nat.lt_of_le_of_lt h.over h.lt))) (hb.block g h.lt)
end
theorem mspoil_cells {w : World} {base g : Nat} {s : RD} (h : Mr w base g s) : Mr ((w.setCell ⟨g, 1, none⟩ (.bool true)).setCell ⟨g, 0, none⟩ (.slice none 0 0)) base g RD.spoilt ∧ Only [g] w ((w.setCell ⟨g, 1, none⟩ (.bool true)).setCell ⟨g, 0, none⟩ (.slice none 0 0)) := by
  obtain ⟨A, c, h1, h2, h3, h4, h5, h6⟩ := h
  refine ⟨⟨none, 0, ?_, ⟨Reads.none_, fun b hb => by cases hb⟩, Nat.le_refl _, by simp [maxLen], h5, RD.spoilt_good⟩, ((Only.refl _ _).setCell (.inl (by simp)) _).setCell (.inl (by simp)) _⟩
  exact (h1.set_ 1 (.bool true)).set_ 0 (.slice none 0 0)
theorem mcut_cells {w' : World} {base g k : Nat} {s : RD} {A : Option Addr} {c : Nat} (h1 : Blk w' g 108 #[.slice A s.bs.length c, .bool s.bad]) (h2 : Bytes w' base A s.bs.length s.bs) (h3 : s.bs.length ≤ c) (h4 : c ≤ maxLen) (h5 : base ≤ g) (h6 : s.Good) (hk : k ≤ s.bs.length) (hbad : s.bad = false) :
    Mr (w'.setCell ⟨g, 0, none⟩ (.slice (if c = k then A else A.map (·.add k)) (s.bs.length - k) (c - k))) base g ⟨s.bs.drop k, false⟩ := by
  have hcut : Bytes w' base (if c = k then A else A.map (·.add k)) (s.bs.length - k) (s.bs.drop k) := by
    have := h2.1.cut hk h3
    rw [Nat.mul_one, u8s, ← List.map_drop] at this
    exact ⟨this, fun b hb => h2.2 b (List.mem_of_mem_drop hb)⟩
  refine ⟨(if c = k then A else A.map (·.add k)), c - k, ?_, ?_, ?_, by omega, h5, ⟨fun e => (by cases e), fun b hb => h6.2 b (List.mem_of_mem_drop hb)⟩⟩
  · have := h1.set_ 0 (.slice (if c = k then A else A.map (·.add k)) (s.bs.length - k) (c - k))
    rw [hbad] at this
    simpa using this
  · simp only [List.length_drop]
    exact hcut.setCell h5 _
  · simp only [List.length_drop]; omega
theorem mtake_any (w : World) (base g : Nat) (s : RD) (n : Int) (h : Mr w base g s) (hn1 : -9223372036854775808 ≤ n) (hn2 : n ≤ 9223372036854775807) (hs : s.bs.length ≤ 9000000) :
    Calls Try.prog 104 #[.pointer (some ⟨g, 0, none⟩), .int .i64 n] w fun e w' => ∃ v, e = .returned v ∧ Own w' w.heap.size v (s.got n).length (s.got n) ∧ Mr w' base g (s.take n) ∧ Only [g] w w' := by
  have hH := h
  obtain ⟨A, c, h1, h2, h3, h4, h5, h6⟩ := h
  have hc0 : w.cell? ⟨g, 0, none⟩ = some (.slice A s.bs.length c) := by rw [h1.cell]; rfl
  have hc1 : w.cell? ⟨g, 1, none⟩ = some (.bool s.bad) := by rw [h1.cell]; rfl
  have hf0 : w.frozen? ⟨g, 0, none⟩ = false := h1.frozen _
  have hf1 : w.frozen? ⟨g, 1, none⟩ = false := h1.frozen _
  by_cases hbad : s.bad = true
  · obtain ⟨e1, e2⟩ := RD.take_un (s := s) (n := n) (.inr (.inr hbad))
    rw [e1, e2]
    rw [hbad] at hc1
    have hsp := Lib.hid (mspoil_cells hH)
    clear hH
    go_enter Try.func104, Try.ntmps104
    go_wp2
    go_ret
    exact ⟨_, rfl, Own.nil _ _, hsp.out⟩
  · have hbad' : s.bad = false := by simpa using hbad
    rw [hbad'] at hc1
    have hsp := Lib.hid (mspoil_cells hH)
    clear hH
    by_cases h0 : n < 0
    · obtain ⟨e1, e2⟩ := RD.take_un (s := s) (.inl h0)
      rw [e1, e2]
      have hd : decide (n < 0) = true := by simpa using h0
      go_enter Try.func104, Try.ntmps104
      go_wp2
      go_ret
      exact ⟨_, rfl, Own.nil _ _, hsp.out⟩
    · have hd : decide (n < 0) = false := by simpa using h0
      by_cases hl : (s.bs.length : Int) < n
      · obtain ⟨e1, e2⟩ := RD.take_un (s := s) (n := n) (.inr (.inl hl))
        rw [e1, e2]
        have hd2 : decide ((s.bs.length : Int) < n) = true := by simpa using hl
        go_enter Try.func104, Try.ntmps104
        go_wp2
        go_ret
        exact ⟨_, rfl, Own.nil _ _, hsp.out⟩
      · have hd2 : decide ((s.bs.length : Int) < n) = false := by simpa using hl
        obtain ⟨k, rfl⟩ := Int.eq_ofNat_of_zero_le (show 0 ≤ n by omega)
        have hkl : k ≤ s.bs.length := by omega
        obtain ⟨e1, e2⟩ := RD.take_fit hbad' hkl
        rw [e1, e2]
        have hlen : (s.bs.take k).length = k := by rw [List.length_take]; omega
        unfold maxLen at h4
        have q1 : (0 : Int) ≤ (k : Int) := by omega
        have q2 : (k : Int) ≤ (c : Int) := by omega
        have q3 : (k : Int) ≤ (s.bs.length : Int) := by omega
        have hkc : k ≤ c := by omega
        have bA := below_alloc w (.cells #[] 5)
        have hsrc : Bytes (w.alloc (.cells #[] 5)) base A k (s.bs.take k) := (h2.take hkl).since bA
        have H1 := Lib.hid h1
        have H2 := Lib.hid h2
        have H6 := Lib.hid h6
        have HSP := Lib.hid hsrc
        have hgl := h1.lt
        clear hsp hsrc h1 h2 h6
        by_cases hck : c = k
        · go_enter Try.func104, Try.ntmps104
          go_wp2_with (refine app_bytes (.tmp 29) (.tmp 35) rfl rfl w.heap.size (.slice (some ⟨w.heap.size, 0, none⟩) 0 0) 0 [] rfl (Own.new w w.heap.size (Nat.le_refl _)) base A k _ (s.bs.take k) rfl HSP.out (by omega) (by simp) ?_
                       intro v3 w3 h3' g3 a3
                       have b3 : Below w.heap.size w w3 := below_own (below_alloc w _) (Own.new w w.heap.size (Nat.le_refl _)) (Nat.le_refl _) g3 (by simp)
                       have c30 : w3.cell? ⟨g, 0, none⟩ = some (.slice A s.bs.length c) := by rw [(H1.out.below b3 hgl).cell]; rfl
                       have f30 : w3.frozen? ⟨g, 0, none⟩ = false := (H1.out.below b3 hgl).frozen _)
          go_ret
          have hM := mcut_cells (k := k) (H1.out.below b3 hgl) (H2.out.since b3) h3 h4 h5 H6.out hkl hbad'
          have hO : Own w3 w.heap.size v3 k (s.bs.take k) := by simpa using h3'
          have hne : ∀ k ∈ rowOf v3, k ≠ g := fun j hj e => by
            have := (World.ownsRow.lt hO j (mem_rowOf.1 hj)).1
            omega
          rw [if_pos hck, show c - k = 0 by omega] at hM
          subst hck
          exact ⟨v3, rfl, row_of hO (fun j hj => Below.heap_setCell _ _ _ _ (hne j hj)), hM, (Only.of_below b3 [g]).setCell (.inl (by simp)) _⟩
        · go_enter Try.func104, Try.ntmps104
          go_wp2_with (refine app_bytes (.tmp 29) (.tmp 35) rfl rfl w.heap.size (.slice (some ⟨w.heap.size, 0, none⟩) 0 0) 0 [] rfl (Own.new w w.heap.size (Nat.le_refl _)) base A k _ (s.bs.take k) rfl HSP.out (by omega) (by simp) ?_
                       intro v3 w3 h3' g3 a3
                       have b3 : Below w.heap.size w w3 := below_own (below_alloc w _) (Own.new w w.heap.size (Nat.le_refl _)) (Nat.le_refl _) g3 (by simp)
                       have c30 : w3.cell? ⟨g, 0, none⟩ = some (.slice A s.bs.length c) := by rw [(H1.out.below b3 hgl).cell]; rfl
                       have f30 : w3.frozen? ⟨g, 0, none⟩ = false := (H1.out.below b3 hgl).frozen _)
          go_ret
          have hM := mcut_cells (k := k) (H1.out.below b3 hgl) (H2.out.since b3) h3 h4 h5 H6.out hkl hbad'
          have hO : Own w3 w.heap.size v3 k (s.bs.take k) := by simpa using h3'
          have hne : ∀ k ∈ rowOf v3, k ≠ g := fun j hj e => by
            have := (World.ownsRow.lt hO j (mem_rowOf.1 hj)).1
            omega
          rw [if_neg hck] at hM
          exact ⟨v3, rfl, row_of hO (fun j hj => Below.heap_setCell _ _ _ _ (hne j hj)), hM, (Only.of_below b3 [g]).setCell (.inl (by simp)) _⟩
end Go.Proofs.Ytgddenhnpjoabaa

/-
  What the document's reader reads. Conditions: it lies where it is said to.
-/
namespace Go.Proofs.Ytgddenhnpjoabaa
open Go.RowKit
set_option linter.unusedSimpArgs false
set_option maxRecDepth 100000
set_option linter.unusedVariables false
theorem un_drop (l : List Nat) (k b : Nat) (h : l[k]? = some b) : un (l.drop k) = b + 256 * un (l.drop (k + 1)) := by
  have hk : k < l.length := (List.getElem?_eq_some_iff.1 h).1
  rw [List.drop_eq_getElem_cons hk, un]
  have : l[k] = b := (List.getElem?_eq_some_iff.1 h).2
  rw [this]
theorem un_drop_lt (l : List Nat) (k : Nat) (hl : l.length ≤ 8) (hb : ∀ b ∈ l, b < 256) : un (l.drop (k + 1)) < 72057594037927936 := by
  have h := un_lt (l.drop (k + 1)) (fun b hm => hb b (List.mem_of_mem_drop hm))
  have h2 : (l.drop (k + 1)).length ≤ 7 := by rw [List.length_drop]; omega
  have h3 : (256 : Nat) ^ (l.drop (k + 1)).length ≤ 256 ^ 7 := Nat.pow_le_pow_right (by omega) h2
  have h4 : (256 : Nat) ^ 7 = 72057594037927936 := by decide
  omega
theorem mnum_any (w : World) (base g : Nat) (s : RD) (h : Mr w base g s) (hs : s.bs.length ≤ 9000000) :
    Calls Try.prog 62 #[.pointer (some ⟨g, 0, none⟩)] w fun e w' => e = .returned (.int .i64 s.num) ∧ Mr w' base g (s.take 8) ∧ Only [g] w w' := by
  have hg := RD.got_lt h.good 8
  have hgl := got_len s 8
  have hnum : s.num = numOf (s.got 8) := rfl
  rw [hnum]
  go_enter Try.func62, Try.ntmps62
  go_wp2_with fail
  refine (mtake_any w base g s 8 h (by omega) (by omega) hs).mono ?_
  rintro e w1 ⟨v, rfl, h1, m1, o1⟩
  obtain ⟨A1, c1, rfl, -, -, -⟩ := h1.form
  have hby := h1.bytes hg
  have h8 : (s.got 8).length ≤ 8 := by
    rcases hgl with h | h
    · have h' : (s.got 8).length = 8 := h
      omega
    · have h' : (s.got 8).length = 0 := h
      omega
  have HM := Lib.hid (And.intro m1 o1)
  clear h1 m1 o1 hgl hnum
  generalize hq : s.got 8 = l at *
  have HQ := Lib.hid hq
  clear hq
  have HB := Lib.hid hby
  have HG := Lib.hid hg
  clear hby hg
  go_wp2
  go_loop [4, 5] (fun u i => ∃ k : Nat, k ≤ l.length ∧ i = .int .i64 ((k : Int) - 1) ∧ u = .int .u64 (un (l.drop k) : Nat)) (fun _ i => ((intOf i) + 1).toNat)
  case atStart => exact ⟨l.length, Nat.le_refl _, rfl, by simp [un]⟩
  case round =>
    obtain ⟨k, hk, rfl, rfl⟩ := hrel
    by_cases h0 : k = 0
    · subst h0
      have hd : decide ((0 : Int) ≤ (((0 : Nat) : Int) - 1)) = false := by decide
      go_wp2
      go_ret
      exact ⟨by rw [HQ.out]; rfl, HM.out⟩
    · obtain ⟨j, rfl⟩ : ∃ j, k = j + 1 := ⟨k - 1, by omega⟩
      obtain ⟨ad, b, rfl, hbj, hb256, hc⟩ := HB.out.at_ (show j < l.length by omega)
      have hlt := un_drop_lt l j h8 HG.out
      have hun := Lib.hid (un_drop l j b hbj)
      generalize un (l.drop (j + 1)) = u at *
      have e1 : (((j + 1 : Nat) : Int) - 1) = (j : Int) := by omega
      rw [e1]
      have hj0 : (0 : Int) ≤ (j : Int) := by omega
      have hj1 : (j : Int) < (l.length : Int) := by omega
      clear hbj
      go_wp2
      refine ⟨⟨j, by omega, rfl, ?_⟩, by simp only [intOf]; omega⟩
      rw [hun.out]
      congr 1
      omega
theorem mbyte_any (w : World) (base g : Nat) (s : RD) (h : Mr w base g s) (hs : s.bs.length ≤ 9000000) :
    Calls Try.prog 106 #[.pointer (some ⟨g, 0, none⟩)] w fun e w' => e = .returned (.int .u8 s.byte) ∧ Mr w' base g (s.take 1) ∧ Only [g] w w' := by
  have hg := RD.got_lt h.good 1
  have hbyte : s.byte = (s.got 1).headD 0 := rfl
  rw [hbyte]
  go_enter Try.func106, Try.ntmps106
  go_wp2_with fail
  refine (mtake_any w base g s 1 h (by omega) (by omega) hs).mono ?_
  rintro e w1 ⟨v, rfl, h1, m1, o1⟩
  obtain ⟨A1, c1, rfl, -, -, -⟩ := h1.form
  have hby := h1.bytes hg
  have HM := Lib.hid (And.intro m1 o1)
  clear h1 m1 o1 hbyte
  cases hq : s.got 1 with
  | nil =>
    rw [hq] at hby
    have HQ := Lib.hid hq
    clear hq
    go_wp2
    go_ret
    exact ⟨by rw [HQ.out]; rfl, HM.out⟩
  | cons b l =>
    rw [hq] at hby
    obtain ⟨ad, b', rfl, hb', hb256, hc⟩ := hby.at_ (show 0 < (b :: l).length by simp)
    simp at hb'
    subst hb'
    have HQ := Lib.hid hq
    have hc0 : w1.cell? ad = some (.int .u8 b) := by
      have e : ad.add 0 = ad := by simp [Addr.add]
      rwa [e] at hc
    have hd : (((b :: l).length : Int) == 0) = false := by simp; omega
    clear hq
    go_wp2
    go_ret
    exact ⟨by rw [HQ.out]; rfl, HM.out⟩
theorem mflag_any (w : World) (base g : Nat) (s : RD) (h : Mr w base g s) (hs : s.bs.length ≤ 9000000) :
    Calls Try.prog 66 #[.pointer (some ⟨g, 0, none⟩)] w fun e w' => e = .returned (.bool s.flag) ∧ Mr w' base g s.flagTo ∧ Only [g] w w' := by
  have hby := RD.byte_lt h.good
  have hfl : ((s.byte : Int) == 1) = s.flag := by unfold RD.flag; rw [Bool.eq_iff_iff, beq_iff_eq, beq_iff_eq]; omega
  by_cases h1 : 1 < s.byte
  · have hd : decide (1 < (s.byte : Int)) = true := by simp; omega
    have hto : s.flagTo = RD.spoilt := by unfold RD.flagTo; rw [if_pos h1]
    rw [hto]
    go_enter Try.func66, Try.ntmps66
    go_wp2_with fail
    refine (mbyte_any w base g s h hs).mono ?_
    rintro e w1 ⟨rfl, m1, o1⟩
    have hsp := Lib.hid (mspoil_cells m1)
    have HO := Lib.hid o1
    obtain ⟨A, c, k1, k2, k3, k4, k5, k6⟩ := m1
    have hc0 : w1.cell? ⟨g, 0, none⟩ = some (.slice A (s.take 1).bs.length c) := by rw [k1.cell]; rfl
    have hc1 : w1.cell? ⟨g, 1, none⟩ = some (.bool (s.take 1).bad) := by rw [k1.cell]; rfl
    have hf0 : w1.frozen? ⟨g, 0, none⟩ = false := k1.frozen _
    have hf1 : w1.frozen? ⟨g, 1, none⟩ = false := k1.frozen _
    clear k1 k2 k3 k4 k6 o1
    go_wp2
    go_ret
    exact ⟨rfl, hsp.out.1, HO.out.trans hsp.out.2 (Fresh.refl _ _)⟩
  · have hd : decide (1 < (s.byte : Int)) = false := by simp; omega
    have hto : s.flagTo = s.take 1 := by unfold RD.flagTo; rw [if_neg h1]
    rw [hto]
    go_enter Try.func66, Try.ntmps66
    go_wp2_with fail
    refine (mbyte_any w base g s h hs).mono ?_
    rintro e w1 ⟨rfl, m1, o1⟩
    go_wp2
    go_ret
    exact ⟨rfl, m1, o1⟩
theorem RD.bad_num {s : RD} (h : (s.take 8).bad = true) : s.num = 0 ∧ s.take 8 = RD.spoilt := by
  have hf : s.fits 8 = false := by
    cases hf : s.fits 8 with
    | false => rfl
    | true => simp [RD.take, hf] at h
  exact ⟨by simp [RD.num, RD.got, hf, numOf, un, wrap64], by simp [RD.take, hf]⟩
theorem mbytes_any (w : World) (base g : Nat) (s : RD) (h : Mr w base g s) (hs : s.bs.length ≤ 9000000) :
    Calls Try.prog 63 #[.pointer (some ⟨g, 0, none⟩)] w fun e w' => ∃ v, e = .returned v ∧ Own w' w.heap.size v s.bytes.length s.bytes ∧ Mr w' base g s.bytesTo ∧ Only [g] w w' := by
  have hle := RD.take_le s 8
  cases hb : (s.take 8).bad with
  | true =>
    obtain ⟨e1, e2⟩ := RD.bad_num hb
    have e3 : s.bytes = [] := by simp [RD.bytes, e2, RD.got, RD.fits, RD.spoilt]
    have e4 : s.bytesTo = s.take 8 := by unfold RD.bytesTo; rw [e2]; simp [RD.take, RD.fits, RD.spoilt]
    rw [e3, e4]
    go_enter Try.func63, Try.ntmps63
    go_wp2_with fail
    refine (mnum_any w base g s h hs).mono ?_
    rintro e w1 ⟨rfl, m1, o1⟩
    have HM := Lib.hid m1
    obtain ⟨A, c, k1, -⟩ := m1
    have hc1 : w1.cell? ⟨g, 1, none⟩ = some (.bool true) := by rw [k1.cell, hb]; rfl
    clear k1
    go_wp2
    go_ret
    exact ⟨_, rfl, Own.nil _ _, HM.out, o1⟩
  | false =>
    go_enter Try.func63, Try.ntmps63
    go_wp2_with fail
    refine (mnum_any w base g s h hs).mono ?_
    rintro e w1 ⟨rfl, m1, o1⟩
    have HM := Lib.hid m1
    obtain ⟨A, c, k1, -⟩ := m1
    have hc1 : w1.cell? ⟨g, 1, none⟩ = some (.bool false) := by rw [k1.cell, hb]; rfl
    clear k1
    go_wp2_with fail
    refine (mtake_any w1 base g (s.take 8) s.num HM.out (num_range s).1 (num_range s).2 (by omega)).mono ?_
    rintro e w2 ⟨v, rfl, h2, m2, o2⟩
    go_wp2
    go_ret
    exact ⟨v, rfl, h2.weaken o1.size, m2, o1.trans o2 (Fresh.refl _ _)⟩
end Go.Proofs.Ytgddenhnpjoabaa

/-
  What the laws ask of a reader: bytes and numbers side by side, bytes written over, one read by both. Conditions: the readers lie where they are said to.
-/
namespace Go.Proofs.Ytgddenhnpjoabaa
open Go.RowKit
set_option linter.unusedSimpArgs false
set_option maxRecDepth 100000
set_option linter.unusedVariables false
theorem same_any (A A' : Option Addr) (n n' c c' B B' : Nat) (bs bs' : List Nat) (w : World) (h : Bytes w B A n bs) (h' : Bytes w B' A' n' bs') :
    Calls Try.prog 18 #[.slice A n c, .slice A' n' c'] w fun e w' => ∃ b, e = .returned (.bool b) ∧ (bs = bs' → b = true) ∧ w = w' := by
  have k1 := str_of (P := Try.prog) h c 23 9 5 Try.underlying23 Try.underlying5 Try.underlying9
  have k2 := str_of (P := Try.prog) h' c' 23 9 5 Try.underlying23 Try.underlying5 Try.underlying9
  obtain ⟨s1, hs1⟩ : ∃ s, s = strOf bs := ⟨_, rfl⟩
  obtain ⟨s2, hs2⟩ : ∃ s, s = strOf bs' := ⟨_, rfl⟩
  rw [← hs1] at k1
  rw [← hs2] at k2
  have HE : Hid (bs = bs' → s1 = s2) := Lib.hid (fun e => by rw [hs1, hs2, e])
  clear hs1 hs2 h h'
  go_enter Try.func18, Try.ntmps18
  go_wp2
  go_ret
  exact ⟨_, rfl, fun e => by simp [HE.out e], rfl⟩
/-- the bytes of a row of the call's own are written over -/
theorem over_any (w : World) (base : Nat) (v : Value) (n : Nat) (bs : List Nat) (h : Own w base v n bs) (hlt : ∀ b ∈ bs, b < 256) (hn : n ≤ 10000000) :
    Calls Try.prog 24 #[v] w fun e w' => e = .returned (.tuple #[]) ∧ Only (rowOf v) w w' := by
  obtain ⟨A, c, rfl, hnc, hcm, hA⟩ := h.form
  have H := Lib.hid (And.intro h hlt)
  clear h hlt
  go_enter Try.func24, Try.ntmps24
  go_wp2
  go_loopw [5] (fun i wr => ∃ (k : Nat) (cs : List Nat), k ≤ n ∧ i = .int .i64 k ∧ Own wr base (.slice A n c) n cs ∧ (∀ b ∈ cs, b < 256) ∧ Only (rowOf (.slice A n c)) w wr) (fun i _ => n - (intOf i).toNat)
  case atStart => exact ⟨0, bs, Nat.zero_le _, rfl, H.out.1, H.out.2, Only.refl _ _⟩
  case round =>
    obtain ⟨k, cs, hk, rfl, ho, hcs, hy⟩ := hrel
    by_cases hlt : k < n
    · obtain ⟨g, rfl, hbg, -⟩ : ∃ g, A = some ⟨g, 0, none⟩ ∧ base ≤ g ∧ True := by
        rcases hA with ⟨rfl, h0, _⟩ | ⟨g, h1, h2, _⟩
        · omega
        · exact ⟨g, h1, h2, trivial⟩
      have hkl : k < cs.length := by have := ho.len; omega
      obtain ⟨b, hb⟩ : ∃ b, cs[k]? = some b := ⟨_, List.getElem?_eq_getElem hkl⟩
      have hb256 := hcs b (List.mem_of_getElem? hb)
      have hc := ho.cell hb
      have hf := ho.frozen k
      have hx : bits .xor .u8 (b : Int) 255 = ((b ^^^ 255 : Nat) : Int) := u8_xor_nat b 255 hb256 (by omega)
      have hx256 : b ^^^ 255 < 256 := Nat.xor_lt_two_pow (n := 8) (by omega) (by omega)
      have Ho := Lib.hid ho
      have Hcs := Lib.hid hcs
      have Hy := Lib.hid hy
      have hk0 : (0 : Int) ≤ (k : Int) := by omega
      have hk1 : (k : Int) < (n : Int) := by omega
      clear ho hcs hy hb
      go_wp2
      refine ⟨⟨k + 1, cs.set k (b ^^^ 255), by omega, by go_num, Ho.out.stored k _, fun x hm => ?_, Hy.out.setCell (.inl (by simp [rowOf, Value.ownBlock])) _⟩, by simp only [intOf]; omega⟩
      rcases List.mem_or_eq_of_mem_set hm with hm | rfl
      · exact Hcs.out x hm
      · exact hx256
    · have Hy := Lib.hid hy
      clear hy ho
      go_wp2
      refine bodyPost_end (results_none rfl _ _ _) rfl ?_
      exact ⟨rfl, Hy.out⟩
/-- the state behind a reading -/
def RD.to (s : RD) (kind : Int) : RD := if kind = 0 then s.take 1 else if kind = 2 then s.flagTo else if kind = 3 then s.bytesTo else if kind = 4 then s.bytesTo else if kind = 5 then s.numsTo else s.take 8
theorem RD.got_le' (s : RD) (n : Int) : (s.got n).length ≤ s.bs.length := RD.got_le s n
theorem RD.to_le (s : RD) (kind : Int) : (s.to kind).bs.length ≤ s.bs.length := by
  have h8 := RD.take_le s 8
  have hb : s.bytesTo.bs.length ≤ s.bs.length := Nat.le_trans (RD.take_le _ _) h8
  have hrun : ∀ k, (RD.run k (s.take 8)).bs.length ≤ (s.take 8).bs.length := fun k => by
    induction k with
    | zero => exact Nat.le_refl _
    | succ k ih => exact Nat.le_trans (RD.take_le _ 8) ih
  unfold RD.to
  repeat' split
  · exact RD.take_le s 1
  · unfold RD.flagTo
    split
    · simp [RD.spoilt]
    · exact RD.take_le s 1
  · exact hb
  · exact hb
  · unfold RD.numsTo
    split
    · exact Nat.le_trans (hrun _) h8
    · simp [RD.spoilt]
  · exact h8
theorem RD.take_notbad {s : RD} {n : Int} (h : (s.take n).bad = false) : s.fits n = true := by
  cases hf : s.fits n with
  | true => rfl
  | false => simp [RD.take, hf, RD.spoilt] at h
/-- a flag that was read counts as the reader isn't bad: if it is bad there was none -/
theorem RD.flag_bad (s : RD) : (s.flag && !s.flagTo.bad) = s.flag := by
  cases hf : s.flag with
  | false => rfl
  | true =>
    have h1 : s.byte = 1 := by simpa [RD.flag] using hf
    have hto : s.flagTo = s.take 1 := by unfold RD.flagTo; rw [if_neg (by omega)]
    have hb : (s.take 1).bad = false := by
      cases hfit : s.fits 1 with
      | true => simp [RD.take, hfit]
      | false => simp [RD.byte, RD.got, hfit] at h1
    rw [hto, hb]
    rfl
/-- both readers, apart -/
structure Both (w : World) (base : Nat) (F : List Nat) (p : Option Addr) (s : RD) (g : Nat) (t : RD) : Prop where
  rd : Rd w base F p s
  mr : Mr w base g t
  apart : g ∉ F
def BTo (w : World) (base : Nat) (F : List Nat) (p : Option Addr) (s : RD) (g : Nat) (t : RD) (w' : World) : Prop := ∃ F', Both w' base F' p s g t ∧ Only (g :: F) w w' ∧ Fresh w F F'
section
variable {w w1 w' : World} {base g : Nat} {F F1 : List Nat} {p : Option Addr} {s t : RD}
theorem Both.below (h : Both w base F p s g t) (hb : Below w.heap.size w w') : Both w' base F p s g t := ⟨h.rd.below hb, h.mr.below hb, h.apart⟩
theorem Both.one (h : Both w base F p s g t) {s' : RD} (r : Rd w1 base F1 p s') (o : Only F w w1) (f : Fresh w F F1) : Both w1 base F1 p s' g t :=
  ⟨r, h.mr.of (o.below h.rd.over (Nat.le_of_lt (Nat.lt_of_le_of_lt h.mr.over h.mr.lt))) (o.block g h.mr.lt h.apart), fun hm => by
    rcases f _ hm with h' | h'
    · exact h.apart h'
    · have := h.mr.lt; omega⟩
theorem Both.two (h : Both w base F p s g t) {t' : RD} (m : Mr w1 base g t') (o : Only [g] w w1) : Both w1 base F p s g t' :=
  ⟨h.rd.of o.size (fun k hk => o.block k (h.rd.under k hk) (fun hm => h.apart (by simp at hm; subst hm; exact hk))), m, h.apart⟩
theorem BTo.stay (h : Both w base F p s g t) : BTo w base F p s g t w := ⟨F, h, Only.refl _ _, Fresh.refl _ _⟩
theorem BTo.then_ (h : BTo w base F p s g t w1) (hb : Below w1.heap.size w1 w') : BTo w base F p s g t w' := by
  obtain ⟨F2, h1, h2, h3⟩ := h
  exact ⟨F2, h1.below hb, h2.trans (Only.of_below hb (g :: F2)) (fun k hk => (List.mem_cons.1 hk).elim (fun e => .inl (by simp [e])) (fun hk => (h3 k hk).imp (List.mem_cons_of_mem _) id)), h3⟩
theorem BTo.two (h : BTo w base F p s g t w1) {t' : RD} (m : Mr w' base g t') (o : Only [g] w1 w') : BTo w base F p s g t' w' := by
  obtain ⟨F2, h1, h2, h3⟩ := h
  exact ⟨F2, h1.two m o, h2.trans o (fun k hk => .inl (by simp at hk; simp [hk])), h3⟩
theorem BTo.of_one (h : Both w base F p s g t) {s' : RD} (r : RTo w base F p s' w1) : BTo w base F p s' g t w1 := by
  obtain ⟨F1, r, o, f⟩ := r
  exact ⟨F1, h.one r o f, o.mono (fun k hk => List.mem_cons_of_mem _ hk), f⟩
theorem BTo.now (h : BTo w base F p s g t w1) : ∃ F2, Both w1 base F2 p s g t := by obtain ⟨F2, h1, _⟩ := h; exact ⟨F2, h1⟩
end
end Go.Proofs.Ytgddenhnpjoabaa

/-
  What the laws' own Copy and Kept return. Conditions: the bytes are no more than a million.
-/
namespace Go.Proofs.Ytgddenhnpjoabaa
open Go.RowKit
set_option linter.unusedSimpArgs false
set_option maxRecDepth 100000
set_option linter.unusedVariables false
set_option maxHeartbeats 400000 in
theorem copy_any (A : Option Addr) (n c : Nat) (bs : List Nat) (w : World) (hn : n ≤ 1000000) (hb : Bytes w w.heap.size A n bs) :
    Calls Try.prog 21 #[.slice A n c] w fun e w' => ∃ g cap, e = .returned (.slice (some ⟨g, 0, none⟩) n cap) ∧ n + 2 ≤ cap ∧ w.heap.size ≤ g ∧
      Own w' w.heap.size (.slice (some ⟨g, 0, none⟩) (n + 2) cap) (n + 2) (bs ++ [165, 90]) ∧ Below w.heap.size w w' := by
  go_enter Try.func21, Try.ntmps21
  go_wp2_with (first
    | (refine make_bytes _ _ rfl rfl w.heap.size _ _ _ (n + 2) rfl rfl (by omega) (by omega) (Nat.le_refl _) ?_
       intro w1 h1 g1
       have b1 : Below w.heap.size w w1 := ⟨g1.os, g1.tape, g1.output, g1.size, fun i hi => g1.block i hi (by simp)⟩)
    | (refine app_bytes (.tmp 6) (.tmp 7) rfl rfl w.heap.size _ 0 [] rfl h1 w.heap.size A n c bs rfl (hb.below b1) (by omega) b1.size ?_
       intro v2 w2 h2 g2 a2
       have b2 : Below w.heap.size w w2 := below_own b1 h1 (Nat.le_refl _) g2 b1.size)
    | (refine app_bytes (.tmp 8) (.tmp 9) rfl rfl w.heap.size _ _ _ rfl (h2.alloc _) _ _ 2 2 [165, 90] rfl (Bytes.new _ _ _ _ (by decide)) (by omega) (Nat.le_trans b2.size (by simp)) ?_
       intro v3 w3 h3 g3 a3
       have b3 : Below w.heap.size w w3 := below_own (b2.alloc b2.size _) (h2.alloc _) (Nat.le_refl _) g3 (Nat.le_trans b2.size (by simp))
       have h3' : Own w3 w.heap.size v3 (n + 2) (bs ++ [165, 90]) := by simpa using h3
       clear h3
       obtain ⟨A3, cap3, rfl, hcap, hmax, hA3⟩ := h3'.form
       unfold maxLen at hmax
       obtain ⟨g, rfl, hg1, hg2⟩ : ∃ g, A3 = some ⟨g, 0, none⟩ ∧ w.heap.size ≤ g ∧ g < w3.heap.size := hA3.resolve_left (by omega)
       clear hA3))
  go_ret
  exact ⟨g, cap3, rfl, hcap, hg1, h3', b3⟩
theorem mine_bytes {w w0 : World} {B B0 g n cap : Nat} {A : Option Addr} {bs : List Nat} (hm : Own w B (.slice (some ⟨g, 0, none⟩) (n + 2) cap) (n + 2) (bs ++ [165, 90])) (hb : Bytes w0 B0 A n bs) :
    Bytes w w.heap.size (some ⟨g, 0, none⟩) n bs := by
  have hmb := hm.bytes (fun x hx => by
    rcases List.mem_append.1 hx with hx | hx
    · exact hb.2 x hx
    · simp at hx; omega)
  refine ⟨?_, hb.2⟩
  have := hmb.1.take (k := n) (by omega)
  rwa [u8s, ← List.map_take, List.take_left' (by have := hb.len; omega)] at this
set_option maxHeartbeats 400000 in
theorem kept_any (A : Option Addr) (n c g cap B : Nat) (bs : List Nat) (w : World) (hn : n ≤ 1000000) (hcap : n + 2 ≤ cap) (hb : Bytes w B A n bs)
    (hm : Own w B (.slice (some ⟨g, 0, none⟩) (n + 2) cap) (n + 2) (bs ++ [165, 90])) :
    Calls Try.prog 23 #[.slice (some ⟨g, 0, none⟩) n cap, .slice A n c] w fun e w' => e = .returned (.bool true) ∧ Below w.heap.size w w' := by
  have hmb := hm.bytes (fun x hx => by
    rcases List.mem_append.1 hx with hx | hx
    · exact hb.2 x hx
    · simp at hx; omega)
  have hm1 : Bytes w w.heap.size (some ⟨g, 0, none⟩) n bs := ⟨by
    have := hmb.1.take (k := n) (by omega)
    rwa [u8s, ← List.map_take, List.take_left' (by have := hb.len; omega)] at this, hb.2⟩
  have k1 := str_of (P := Try.prog) hm1 cap 23 9 5 Try.underlying23 Try.underlying5 Try.underlying9
  have k2 := str_of (P := Try.prog) hb c 23 9 5 Try.underlying23 Try.underlying5 Try.underlying9
  have hl := hb.len
  have c1 : w.cell? ⟨g, n, none⟩ = some (.int .u8 165) := by
    rw [World.ownsRow.cellAt hm n (by omega)]
    simp [u8s, u8, hl]
  have c2 : w.cell? ⟨g, n + 1, none⟩ = some (.int .u8 90) := by
    rw [World.ownsRow.cellAt hm (n + 1) (by omega)]
    simp [u8s, u8, hl, show n + 1 - n = 1 by omega]
  clear hl hmb hm1 hm hb
  generalize strOf bs = str at k1 k2
  go_enter Try.func23, Try.ntmps23
  go_wp2_with fail
  all_goals go_ret
  all_goals exact ⟨rfl, Below.refl _ _⟩
/-- the bytes ahead of the marks -/
theorem mine_own {w : World} {base g n cap : Nat} {bs m : List Nat} (h : Own w base (.slice (some ⟨g, 0, none⟩) (n + 2) cap) (n + 2) (bs ++ m)) (hl : bs.length = n) : Own w base (.slice (some ⟨g, 0, none⟩) n cap) n bs := by
  refine ⟨by rw [u8s_length]; omega, ?_⟩
  rcases h.2 with ⟨h, _⟩ | ⟨g', cap', cur, hv, h1, h2, h3, h4, h5, h6⟩
  · cases h
  · injection hv with e1 e2 e3
    injection e1 with e1
    injection e1 with e1
    subst e1 e3
    refine .inr ⟨g, cap, cur, rfl, h1, h2, by omega, h4, h5, ?_⟩
    have := congrArg (List.take (n * 1)) h6
    rw [List.take_take, u8s, List.map_append, List.take_left' (by simp; omega)] at this
    rw [show min (n * 1) ((n + 2) * 1) = n * 1 by omega] at this
    exact this
end Go.Proofs.Ytgddenhnpjoabaa

/-
  What the laws of marks ask of bytes and numbers: copies, rows side by side. Conditions: the rows read as they are said to.
-/
namespace Go.Proofs.Ytgddenhnpjoabaa
open Go.RowKit
set_option linter.unusedSimpArgs false
set_option maxRecDepth 100000
set_option linter.unusedVariables false
theorem u8ofNat_inj {x y : Nat} (hx : x < 256) (hy : y < 256) (h : UInt8.ofNat x = UInt8.ofNat y) : x = y := by
  have := congrArg UInt8.toNat h
  simp at this
  omega
theorem strOf_data (bs : List Nat) : (strOf bs).data.toList = bs.map UInt8.ofNat := by
  simp [strOf, strOfNums]
theorem strOf_inj {a b : List Nat} (ha : ∀ x ∈ a, x < 256) (hb : ∀ x ∈ b, x < 256) (h : strOf a = strOf b) : a = b := by
  have h1 := congrArg (fun s : ByteArray => s.data.toList) h
  simp only [strOf_data] at h1
  have hl : a.length = b.length := by simpa using congrArg List.length h1
  apply List.ext_getElem? 
  intro i
  have h2 := congrArg (fun l => l[i]?) h1
  simp only [List.getElem?_map] at h2
  by_cases hi : i < a.length
  · rw [List.getElem?_eq_getElem hi, List.getElem?_eq_getElem (by omega)] at h2 ⊢
    simp at h2
    rw [u8ofNat_inj (ha _ (List.getElem_mem hi)) (hb _ (List.getElem_mem (by omega))) h2]
  · rw [List.getElem?_eq_none (by omega), List.getElem?_eq_none (by omega)]
/-- bytes side by side, both ways -/
theorem same_iff (A A' : Option Addr) (n n' c c' B B' : Nat) (bs bs' : List Nat) (w : World) (h : Bytes w B A n bs) (h' : Bytes w B' A' n' bs') :
    Calls Try.prog 18 #[.slice A n c, .slice A' n' c'] w fun e w' => e = .returned (.bool (bs == bs')) ∧ w = w' := by
  have k1 := str_of (P := Try.prog) h c 23 9 5 Try.underlying23 Try.underlying5 Try.underlying9
  have k2 := str_of (P := Try.prog) h' c' 23 9 5 Try.underlying23 Try.underlying5 Try.underlying9
  have he : ((strOf bs).toList == (strOf bs').toList) = (bs == bs') := by
    rw [Bool.eq_iff_iff, beq_iff_eq, beq_iff_eq, ByteArray.toList_eq, ByteArray.toList_eq]
    exact ⟨fun e => strOf_inj h.2 h'.2 (Go.WideShapes.bytes_inj e), fun e => by rw [e]⟩
  have HE := Lib.hid he
  generalize strOf bs = s1 at *
  generalize strOf bs' = s2 at *
  clear h h' he
  go_enter Try.func18, Try.ntmps18
  go_wp2
  go_ret
  exact ⟨by simp [HE.out], rfl⟩
end Go.Proofs.Ytgddenhnpjoabaa

/-
  What New, at, like, Set and Sized of marks return. Conditions: the rows read as bytes, of no more than nine million.
-/
namespace Go.Proofs.Ytgddenhnpjoabaa
open Go.RowKit
set_option linter.unusedSimpArgs false
set_option maxRecDepth 100000
set_option linter.unusedVariables false
theorem Own.of_blk {w : World} {base g n : Nat} {bs : List Nat} (h : Blk w g 5 (u8s bs).toArray) (hl : bs.length = n) (hb : base ≤ g) (hn : n ≤ 9000000) : Own w base (.slice (some ⟨g, 0, none⟩) n n) n bs :=
  ⟨by rw [u8s_length]; omega, .inr ⟨g, n, _, rfl, hb, h, Nat.le_refl _, by simp [maxLen]; omega, by simp [u8s_length, hl], by rw [List.take_of_length_le (by simp [u8s_length, hl])]⟩⟩
theorem Blk.bytes {w : World} {g n : Nat} {bs : List Nat} (h : Blk w g 5 (u8s bs).toArray) (hl : bs.length = n) (hb : ∀ b ∈ bs, b < 256) : Bytes w w.heap.size (some ⟨g, 0, none⟩) n bs :=
  ⟨⟨by rw [u8s_length]; omega, fun _ => ⟨_, rfl, h.lt, fun j u hu => by
    rw [add_zero_off, h.cell]
    simpa using hu⟩⟩, hb⟩
theorem Blk.cell8 {w : World} {g k b : Nat} {bs : List Nat} (h : Blk w g 5 (u8s bs).toArray) (hk : bs[k]? = some b) : w.cell? ⟨g, k, none⟩ = some (.int .u8 (b : Int)) := by
  rw [h.cell]
  simp [u8s, u8, hk]
theorem Blk.set8 {w : World} {g : Nat} {bs : List Nat} (h : Blk w g 5 (u8s bs).toArray) (k b : Nat) : Blk (w.setCell ⟨g, k, none⟩ (.int .u8 (b : Int))) g 5 (u8s (bs.set k b)).toArray := by
  have := h.set_ k (.int .u8 (b : Int))
  rw [List.setIfInBounds_toArray] at this
  rwa [u8s, List.map_set]
theorem noughts (k : Nat) : u8s (List.replicate k 0) = List.replicate k (Value.int .u8 0) := by simp [u8s, u8]
theorem make_marks (q : Nat) (hq : q ≤ 9000000) (w : World) : (Instr.makeSlice 33 (.int .i64 q) (.int .i64 q)).run Try.prog w = .ok (.slice (some ⟨w.heap.size, 0, none⟩) q q) (w.alloc (.cells (u8s (List.replicate q 0)).toArray 5)) := by
  obtain ⟨i0, hi0, hz0, hz1, hz2⟩ := info_parts byte_info
  have := run_make (P := Try.prog) w 33 5 i0 (.int .u8 0) Try.underlying33 hi0 hz0 .i64 .i64 q q (by omega) (by omega) (by rw [hz2]; omega) (by omega)
  rw [hz1] at this
  simp only [Int.toNat_natCast, Nat.mul_one] at this
  rw [this, noughts]
  have e : (Value.int .u8 0).cells = (List.replicate 1 (Value.int .u8 0)).toArray := rfl
  rw [e, made_same 1 q _ (by omega)]
theorem make_b (q : Nat) (hq : q ≤ 9000000) (w : World) : (Instr.makeSlice 23 (.int .i64 q) (.int .i64 q)).run Try.prog w = .ok (.slice (some ⟨w.heap.size, 0, none⟩) q q) (w.alloc (.cells (u8s (List.replicate q 0)).toArray 5)) := by
  obtain ⟨i0, hi0, hz0, hz1, hz2⟩ := info_parts byte_info
  have := run_make (P := Try.prog) w 23 5 i0 (.int .u8 0) Try.underlying23 hi0 hz0 .i64 .i64 q q (by omega) (by omega) (by rw [hz2]; omega) (by omega)
  rw [hz1] at this
  simp only [Int.toNat_natCast, Nat.mul_one] at this
  rw [this, noughts]
  have e : (Value.int .u8 0).cells = (List.replicate 1 (Value.int .u8 0)).toArray := rfl
  rw [e, made_same 1 q _ (by omega)]
theorem new_ok (k : Nat) (hk : k ≤ 256) (w : World) : Calls Try.prog 165 #[.int .i64 k] w fun e w' => e = .returned (.tuple #[.slice (some ⟨w.heap.size, 0, none⟩) k k, .nilIface]) ∧ w' = w.alloc (.cells (u8s (List.replicate k 0)).toArray 5) := by
  have hmk := make_marks k (by omega)
  have hd : decide ((256 : Int) < (k : Int)) = false := decide_eq_false (by omega)
  have hd0 : decide ((k : Int) < 0) = false := decide_eq_false (by omega)
  go_enter Try.func165, Try.ntmps165
  go_wp2
  go_ret2
  exact ⟨rfl, rfl⟩
theorem new_bad (n : Int) (hn : n < 0 ∨ 256 < n) (w : World) : Calls Try.prog 165 #[.int .i64 n] w fun e w' => e = .returned (.tuple #[.slice none 0 0, errV 1]) ∧ w = w' := by
  by_cases h0 : n < 0
  · have hd0 : decide (n < (0 : Int)) = true := decide_eq_true h0
    go_enter Try.func165, Try.ntmps165
    go_wp2
    go_ret2
    exact ⟨rfl, rfl⟩
  · have hd0 : decide (n < (0 : Int)) = false := decide_eq_false h0
    have hd1 : decide ((256 : Int) < n) = true := decide_eq_true (by omega)
    go_enter Try.func165, Try.ntmps165
    go_wp2
    go_ret2
    exact ⟨rfl, rfl⟩
theorem u8_size : (Try.prog.info? 5).map (·.size) = some 1 := by kernel_rfl
theorem splice_all {α : Type} (cs Z : List α) (h : cs.length = Z.length) : splice Z 0 cs = cs := by
  simp [splice, h]
theorem like_any (A : Option Addr) (n c : Nat) (bs : List Nat) (w : World) (hn : n ≤ 9000000) (hb : Bytes w w.heap.size A n bs) :
    Calls Try.prog 151 #[.slice A n c] w fun e w' => e = .returned (.slice (some ⟨w.heap.size, 0, none⟩) n n) ∧ Blk w' w.heap.size 5 (u8s bs).toArray ∧ Below w.heap.size w w' := by
  have hmk := make_marks n hn
  have hl := hb.len
  have HB := Lib.hid hb
  have K0 := Blk.new w 5 (u8s (List.replicate n 0)).toArray
  have B0 := below_alloc w (.cells (u8s (List.replicate n 0)).toArray 5)
  have HK := Lib.hid (And.intro K0 B0)
  clear hb K0 B0
  go_enter Try.func151, Try.ntmps151
  go_wp2_with (refine wpList_copy_splice rfl (.tmp 7) (.tmp 8) _ _ rfl 5 Try.underlying33 u8_size (some ⟨w.heap.size, 0, none⟩) A n n n c rfl rfl w.heap.size 0 (u8s (List.replicate n 0)) 5 HK.out.1 (u8s bs) (by rw [u8s_length, hl]; exact (Nat.min_self n).symm) (fun h0 => ⟨rfl, by
                 obtain ⟨ad, e, _, hc⟩ := (HB.out.below HK.out.2).1.2 (by rw [u8s_length] at h0; omega)
                 exact ⟨ad, e, hc⟩⟩) (by rw [u8s_length, u8s_length, List.length_replicate]; omega) (oneCell_u8s _) w.heap.size w HK.out.2 (Nat.le_refl _) ?_
               intro w1 h1 b1)
  go_ret
  exact ⟨rfl, by have := h1.out; rwa [splice_all _ _ (by rw [u8s_length, u8s_length, List.length_replicate]; omega)] at this, b1⟩
theorem sized_at (bs : List Nat) (k j : Nat) (h : j < k) : (sizedM bs k)[j]? = some (mk bs j) := by simp [sizedM, h]
theorem splice_sized (bs : List Nat) (k : Nat) : splice (u8s (List.replicate k 0)) 0 (u8s (bs.take k)) = u8s (sizedM bs k) := by
  apply List.ext_getElem?
  intro j
  unfold splice
  simp only [List.take_zero, List.nil_append, Nat.zero_add, u8s_length]
  by_cases hj : j < (bs.take k).length
  · rw [List.getElem?_append_left (by rw [u8s_length]; exact hj)]
    have h1 : j < k := by rw [List.length_take] at hj; omega
    have h2 : j < bs.length := by rw [List.length_take] at hj; omega
    rw [u8s, u8s, List.getElem?_map, List.getElem?_map, sized_at bs k j h1, List.getElem?_take, if_pos h1, List.getElem?_eq_getElem h2, mk_at (List.getElem?_eq_getElem h2)]
  · rw [List.getElem?_append_right (by rw [u8s_length]; omega), u8s_length, List.getElem?_drop, noughts, List.getElem?_replicate]
    rw [List.length_take] at hj ⊢
    by_cases h1 : j < k
    · rw [if_pos (by omega), u8s, List.getElem?_map, sized_at bs k j h1, mk_over (by omega)]
      rfl
    · rw [if_neg (by omega), List.getElem?_eq_none (by rw [u8s_length, sizedM_len]; omega)]
theorem sized_ok (A : Option Addr) (n c k : Nat) (bs : List Nat) (w : World) (hk : k ≤ 256) (hb : Bytes w w.heap.size A n bs) :
    Calls Try.prog 161 #[.slice A n c, .int .i64 k] w fun e w' => e = .returned (.tuple #[.slice (some ⟨w.heap.size, 0, none⟩) k k, .nilIface]) ∧ Blk w' w.heap.size 5 (u8s (sizedM bs k)).toArray ∧ Below w.heap.size w w' := by
  have hl := hb.len
  have HB := Lib.hid hb
  have K0 := Blk.new w 5 (u8s (List.replicate k 0)).toArray
  have B0 := below_alloc w (.cells (u8s (List.replicate k 0)).toArray 5)
  have HK := Lib.hid (And.intro K0 B0)
  clear hb K0 B0
  go_enter Try.func161, Try.ntmps161
  go_wp2_with fail
  refine (new_ok k hk w).mono ?_
  rintro e w' ⟨rfl, rfl⟩
  go_wp2_with (refine wpList_copy_splice rfl (.tmp 13) (.tmp 14) _ _ rfl 5 Try.underlying33 u8_size (some ⟨w.heap.size, 0, none⟩) A k k n c rfl rfl w.heap.size 0 (u8s (List.replicate k 0)) 5 HK.out.1 (u8s (bs.take k)) (by rw [u8s_length, List.length_take, hl]; exact Nat.min_comm _ _) (fun h0 => ⟨rfl, by
                 rw [u8s_length, List.length_take] at h0
                 obtain ⟨ad, e, _, hc⟩ := (HB.out.below HK.out.2).1.2 (by omega)
                 exact ⟨ad, e, fun j v hj => hc j v (by
                   rw [u8s, List.getElem?_map, List.getElem?_take] at hj
                   split at hj
                   · rw [u8s, List.getElem?_map]; exact hj
                   · cases hj)⟩⟩) (by rw [u8s_length, u8s_length, List.length_replicate, List.length_take]; omega) (oneCell_u8s _) w.heap.size w HK.out.2 (Nat.le_refl _) ?_
               intro w1 h1 b1)
  go_ret2
  exact ⟨rfl, by have := h1.out; rwa [splice_sized] at this, b1⟩
theorem sized_bad (A : Option Addr) (n c : Nat) (k : Int) (w : World) (hk : k < 0 ∨ 256 < k) :
    Calls Try.prog 161 #[.slice A n c, .int .i64 k] w fun e w' => e = .returned (.tuple #[.slice none 0 0, errV 1]) ∧ w = w' := by
  go_enter Try.func161, Try.ntmps161
  go_wp2_with fail
  refine (new_bad k hk w).mono ?_
  rintro e w' ⟨rfl, rfl⟩
  go_wp2_with (refine wpList_copy_nothing rfl (.tmp 13) (.tmp 14) _ _ rfl 5 Try.underlying33 u8_size none A 0 0 n c rfl rfl (Nat.min_zero n) ?_)
  go_ret2
  exact ⟨rfl, rfl⟩
end Go.Proofs.Ytgddenhnpjoabaa

/-
  What good, textSize and place of marks return. Conditions: the row reads as bytes, of no more than ten thousand.
-/
namespace Go.Proofs.Ytgddenhnpjoabaa
open Go.RowKit
set_option linter.unusedSimpArgs false
set_option maxRecDepth 100000
set_option linter.unusedVariables false
def okMark (b : Nat) : Bool := decide (b ≤ 3)
theorem odd_any (b : Nat) (w : World) : Calls Try.prog 163 #[.int .u8 (b : Int)] w fun e w' => e = .returned (.bool (!okMark b)) ∧ w = w' := by
  unfold okMark
  by_cases h1 : b ≤ 3
  · have hd1 : decide ((3 : Int) < (b : Int)) = false := decide_eq_false (by omega)
    have hd2 : decide (b ≤ 3) = true := decide_eq_true h1
    rw [hd2]
    go_enter Try.func163, Try.ntmps163
    go_wp2
    go_ret
    exact ⟨by trivial, rfl⟩
  · have hd1 : decide ((3 : Int) < (b : Int)) = true := decide_eq_true (by omega)
    have hd2 : decide (b ≤ 3) = false := decide_eq_false h1
    rw [hd2]
    go_enter Try.func163, Try.ntmps163
    go_wp2
    go_ret
    exact ⟨by trivial, rfl⟩
def oddV : Value := .func (.func 163) #[] #[]
set_option maxHeartbeats 2000000 in
theorem index_odd {w : World} {B n c : Nat} {A : Option Addr} {bs : List Nat} (h : Bytes w B A n bs) (hl : n ≤ 65536) :
    Calls Try.prog 171 #[.slice A n c, oddV] w fun e w' => (∃ v : Int, e = .returned (.int .i64 v) ∧ ((v = -1 ∧ bs.all okMark = true) ∨ (0 ≤ v ∧ bs.all okMark = false))) ∧ w = w' := by
  have H := Lib.hid h
  have hlen := h.len
  clear h
  go_enter Try.func171, Try.ntmps171
  unfold oddV
  go_wp2
  go_loopw [8] (fun i wr => ∃ k : Nat, k ≤ n ∧ i = .int .i64 k ∧ wr = w ∧ ∀ j b, j < k → bs[j]? = some b → okMark b = true) (fun i _ => n - (intOf i).toNat)
  case atStart => exact ⟨0, by omega, rfl, by trivial, fun j b h => by omega⟩
  case round =>
    obtain ⟨k, hk, rfl, rfl, hall⟩ := hrel
    have HA := Lib.hid hall
    clear hall
    by_cases hlt : k < n
    · obtain ⟨ad, b, rfl, hb, hb2, hc⟩ := H.out.at_ hlt
      have HB := Lib.hid hb
      have HO := Lib.hid (odd_any b wr)
      have hwk : IntKind.i64.wrap ((k : Int) + 1) = (k : Int) + 1 := by rw [IntKind.wrap_i64]; omega
      clear hb
      go_wp2_with fail
      refine HO.out.mono ?_
      rintro e w' ⟨rfl, rfl⟩
      clear HO
      by_cases hok : okMark b = true
      · have HOK := Lib.hid hok
        rw [hok]
        clear hok
        go_wp2
        go_roundw
        case rel => exact ⟨k + 1, by omega, by go_num, by trivial, fun j b' hj hb' => by
          rcases Nat.lt_succ_iff_lt_or_eq.1 hj with h | rfl
          · exact HA.out j b' h hb'
          · rw [HB.out] at hb'; injection hb' with hb'; subst hb'; exact HOK.out⟩
        case measure => simp [intOf]; omega
      · have hok' : okMark b = false := by simpa using hok
        have HOK := Lib.hid hok'
        rw [hok']
        clear hok hok'
        go_wp2
        go_ret
        refine ⟨⟨_, rfl, .inr ⟨by omega, ?_⟩⟩, rfl⟩
        rw [List.all_eq_false]
        exact ⟨b, List.mem_of_getElem? HB.out, by rw [HOK.out]; simp⟩
    · obtain rfl : k = n := by omega
      go_wp2
      go_ret
      refine ⟨⟨_, rfl, .inl ⟨rfl, ?_⟩⟩, rfl⟩
      rw [List.all_eq_true]
      intro b hb
      obtain ⟨j, hj, rfl⟩ := List.mem_iff_getElem.1 hb
      exact HA.out j _ (by omega) (List.getElem?_eq_getElem hj)
theorem contains_odd {w : World} {B n c : Nat} {A : Option Addr} {bs : List Nat} (h : Bytes w B A n bs) (hl : n ≤ 65536) :
    Calls Try.prog 162 #[.slice A n c, oddV] w fun e w' => e = .returned (.bool (!bs.all okMark)) ∧ w = w' := by
  have HI := Lib.hid (index_odd (c := c) h hl)
  clear h
  go_enter Try.func162, Try.ntmps162
  go_wp2_with fail
  refine HI.out.mono ?_
  rintro e w' ⟨⟨v, rfl, hv⟩, rfl⟩
  rcases hv with ⟨rfl, hv⟩ | ⟨hv0, hv⟩
  · have HV := Lib.hid hv
    clear hv
    go_wp2
    go_ret
    exact ⟨by rw [HV.out]; rfl, rfl⟩
  · have HV := Lib.hid hv
    have hd : decide ((0 : Int) ≤ v) = true := decide_eq_true hv0
    clear hv
    go_wp2
    go_ret
    exact ⟨by rw [HV.out]; rfl, rfl⟩
theorem all_ok (bs : List Nat) : (bs.all okMark = true) ↔ ∀ x ∈ bs, x ≤ 3 := by simp [okMark]
theorem good_any (A : Option Addr) (n c B : Nat) (bs : List Nat) (w : World) (hn : n ≤ 10000) (h : Bytes w B A n bs) :
    Calls Try.prog 138 #[.slice A n c] w fun e w' => e = .returned (.bool (decide (Good bs))) ∧ w = w' := by
  have hl := h.len
  have HC := Lib.hid (contains_odd (c := c) h (by omega))
  clear h
  unfold oddV at HC
  by_cases h1 : n ≤ 256
  · have hd : decide ((n : Int) ≤ 256) = true := decide_eq_true (by omega)
    go_enter Try.func138, Try.ntmps138
    go_wp2_with fail
    refine HC.out.mono ?_
    rintro e w' ⟨rfl, rfl⟩
    by_cases hok : bs.all okMark = true
    · have HG : Hid (decide (Good bs) = true) := Lib.hid (decide_eq_true ⟨by omega, (all_ok bs).1 hok⟩)
      rw [hok]
      clear hok
      go_wp2
      go_ret
      exact ⟨by rw [HG.out]; rfl, rfl⟩
    · have hok' : bs.all okMark = false := by simpa using hok
      have HG : Hid (decide (Good bs) = false) := Lib.hid (decide_eq_false (fun hg => hok ((all_ok bs).2 hg.2)))
      rw [hok']
      clear hok hok'
      go_wp2
      go_ret
      exact ⟨by rw [HG.out]; rfl, rfl⟩
  · have hd : decide ((n : Int) ≤ 256) = false := decide_eq_false (by omega)
    have HG : Hid (decide (Good bs) = false) := Lib.hid (decide_eq_false (fun hg => by have := hg.1; omega))
    go_enter Try.func138, Try.ntmps138
    go_wp2
    go_ret
    exact ⟨by rw [HG.out]; rfl, rfl⟩
theorem size_any (n : Nat) (w : World) (hn : n ≤ 1000000) : Calls Try.prog 139 #[.int .i64 n] w fun e w' => e = .returned (.int .i64 ((2 + (n + 3) / 4 : Nat) : Int)) ∧ w = w' := by
  go_enter Try.func139, Try.ntmps139
  go_wp2
  go_ret
  exact ⟨ret_int (by omega), rfl⟩
theorem ret_two {a b c d : Int} (h : a = c) (h' : b = d) : Ending.returned (.tuple #[.int .i64 a, .int .i64 b]) = Ending.returned (.tuple #[.int .i64 c, .int .i64 d]) := by rw [h, h']
theorem place_any (i : Nat) (w : World) (hi : i ≤ 1000000) : Calls Try.prog 140 #[.int .i64 i] w fun e w' => e = .returned (.tuple #[.int .i64 ((2 + i / 4 : Nat) : Int), .int .i64 ((2 * (i % 4) : Nat) : Int)]) ∧ w = w' := by
  have hp : Calls Try.prog 140 #[.int .i64 i] w fun e w' => e = .returned (.tuple #[.int .i64 (2 + (i : Int) / 4), .int .i64 ((i : Int) % 4 * 2)]) ∧ w = w' := by
    go_enter Try.func140, Try.ntmps140
    go_wp2
    go_ret2
    exact ⟨rfl, rfl⟩
  refine hp.mono ?_
  rintro e w' ⟨rfl, rfl⟩
  exact ⟨ret_two (by omega) (by omega), rfl⟩
end Go.Proofs.Ytgddenhnpjoabaa

/-
  What Put of marks returns. Conditions: the row reads as bytes, of no more than ten thousand.
-/
namespace Go.Proofs.Ytgddenhnpjoabaa
open Go.RowKit
set_option linter.unusedSimpArgs false
set_option maxRecDepth 100000
set_option linter.unusedVariables false
theorem put_bad (A : Option Addr) (n c B : Nat) (bs : List Nat) (w : World) (hn : n ≤ 10000) (hb : Bytes w B A n bs) (hg : ¬ Good bs) :
    Calls Try.prog 89 #[.slice A n c] w fun e w' => e = .returned (.tuple #[.slice none 0 0, errV 2]) ∧ w = w' := by
  have HG := Lib.hid (good_any A n c B bs w hn hb)
  have hd : decide (Good bs) = false := decide_eq_false hg
  rw [hd] at HG
  clear hb hd hg
  go_enter Try.func89, Try.ntmps89
  go_wp2_with fail
  refine HG.out.mono ?_
  rintro e w' ⟨rfl, rfl⟩
  go_wp2
  go_ret2
  exact ⟨rfl, rfl⟩
theorem part_zero (bs : List Nat) : part bs 0 = [bs.length % 256, bs.length / 256] ++ List.replicate ((bs.length + 3) / 4) 0 := by
  unfold part packs
  congr 1
  apply List.ext_getElem?
  intro j
  by_cases hj : j < (bs.length + 3) / 4
  · rw [List.getElem?_map, List.getElem?_range hj, List.getElem?_replicate, if_pos hj]
    simp [packB, mk]
  · rw [List.getElem?_eq_none (by simp; omega), List.getElem?_eq_none (by simp; omega)]
theorem head_set (q r L : Nat) : ((List.replicate (2 + L) 0).set 0 q).set 1 r = [q, r] ++ List.replicate L 0 := by
  rw [Nat.add_comm, List.replicate_succ, List.replicate_succ]
  rfl
set_option maxHeartbeats 2000000 in
theorem put_ok (A : Option Addr) (n c : Nat) (bs : List Nat) (w : World) (hb : Bytes w w.heap.size A n bs) (hg : Good bs) :
    Calls Try.prog 89 #[.slice A n c] w fun e w' => e = .returned (.tuple #[.slice (some ⟨w.heap.size, 0, none⟩) (2 + (n + 3) / 4) (2 + (n + 3) / 4), .nilIface]) ∧ Blk w' w.heap.size 5 (u8s (putM bs)).toArray ∧ Below w.heap.size w w' := by
  have hl := hb.len
  have hg0 := hg.1
  have hn : n ≤ 256 := by omega
  have HB := Lib.hid hb
  have HG := Lib.hid (good_any A n c w.heap.size bs w (by omega) hb)
  have hd : decide (Good bs) = true := decide_eq_true hg
  rw [hd] at HG
  obtain ⟨P, hP⟩ : ∃ P, P = 2 + (n + 3) / 4 := ⟨_, rfl⟩
  have hmk := make_b P (by omega)
  have HGd := Lib.hid hg
  have hsz := size_any n w (by omega)
  rw [← hP] at hsz ⊢
  have HP := Lib.hid hP
  have hP2 : 2 ≤ P := by omega
  have hP3 : P ≤ 1000 := by omega
  clear hP
  clear hb hd hg
  go_enter Try.func89, Try.ntmps89
  go_wp2_with fail
  refine HG.out.mono ?_
  rintro e w' ⟨rfl, rfl⟩
  clear HG
  go_wp2_with fail
  refine hsz.mono ?_
  rintro e w' ⟨rfl, rfl⟩
  clear hsz
  have c0 : (u8s (List.replicate P 0))[0]? = some (.int .u8 0) := by rw [noughts, List.getElem?_replicate, if_pos (by omega)]
  have c1 : (u8s (List.replicate P 0))[1]? = some (.int .u8 0) := by rw [noughts, List.getElem?_replicate, if_pos (by omega)]
  have hparts : ((u8s (List.replicate P 0)).set 0 (Value.int .u8 ((n : Int) % 256))).set 1 (Value.int .u8 ((n : Int) / 256)) = u8s (part bs 0) := by
    rw [part_zero, HP.out, ← head_set, hl]
    simp [u8s, u8, List.map_set]
  have HPT := Lib.hid hparts
  clear hparts
  go_wp2
  rw [HPT.out]
  generalize hg : w.heap.size = g at *
  have HK : Hid (Blk (w.alloc (.cells (u8s (part bs 0)).toArray 5)) g 5 (u8s (part bs 0)).toArray ∧ Below g w (w.alloc (.cells (u8s (part bs 0)).toArray 5))) := Lib.hid (by subst hg; exact ⟨Blk.new _ _ _, below_alloc _ _⟩)
  generalize w.alloc (.cells (u8s (part bs 0)).toArray 5) = w1 at *
  go_loopw [30] (fun i wr => ∃ k : Nat, k ≤ n ∧ i = .int .i64 k ∧ Blk wr g 5 (u8s (part bs k)).toArray ∧ Below g w wr) (fun i _ => n - (intOf i).toNat)
  case atStart => exact ⟨0, by omega, rfl, HK.out.1, HK.out.2⟩
  case round =>
    obtain ⟨k, hk, rfl, hkb, hbl⟩ := hrel
    by_cases hlt : k < n
    · obtain ⟨ad, b, rfl, hb, hb2, hc⟩ := (HB.out.below hbl).at_ hlt
      have hpl := place_any k wr (by omega)
      have hkl : 2 + k / 4 < P := by have := HP.out; omega
      have hcell := hkb.cell8 (part_at bs k (by omega))
      have hfz := hkb.frozen (2 + k / 4)
      have hmk : mk bs k = b := mk_at hb
      have hb3 : b ≤ 3 := HGd.out.2 b (List.mem_of_getElem? hb)
      have hset := part_set HGd.out.2 k (by omega)
      rw [hmk] at hset
      have HE := Lib.hid (fun z : Nat => And.intro (hkb.set8 (2 + k / 4) z) (hbl.setCell (p := ⟨g, 2 + k / 4, none⟩) (Nat.le_refl _) (.int .u8 (z : Int))))
      have HS := Lib.hid hset
      have hpt := part_lt HGd.out.2 k
      have hor := (or_add (k % 4) (by omega) _ hpt b (by omega))
      have HPL := Lib.hid hpl
      have HA := Lib.hid hpt
      generalize packB (bs.take k) (k / 4) = a at *
      obtain ⟨at_, hat⟩ : ∃ at_, at_ = 2 + k / 4 := ⟨_, rfl⟩
      obtain ⟨sh, hsh⟩ : ∃ sh, sh = 2 * (k % 4) := ⟨_, rfl⟩
      rw [← hat] at hcell hfz hkl HPL HS HE
      rw [← hsh] at HPL HS hor
      have HAT := Lib.hid hat
      have hsh2 : sh ≤ 6 := by omega
      have HSH := Lib.hid (And.intro hsh hor)
      clear hkb hbl hset hmk hpl hb hat hsh hpt hor
      go_wp2_with fail
      refine HPL.out.mono ?_
      rintro e w2 ⟨he, hw⟩
      subst he
      subst hw
      clear HPL
      have ha : a < 256 := Nat.lt_of_lt_of_le HA.out (by
        have : k % 4 < 4 := Nat.mod_lt _ (by omega)
        calc 4 ^ (k % 4) ≤ 4 ^ 3 := Nat.pow_le_pow_right (by omega) (by omega)
          _ ≤ 256 := by decide)
      have e1 : ((b : Int) * 2 ^ sh % 256) = ((b <<< sh : Nat) : Int) := by
        have h1 := HSH.out.2.2
        rw [Nat.shiftLeft_eq] at h1 ⊢
        have h2 : ((b * 2 ^ sh : Nat) : Int) = (b : Int) * 2 ^ sh := by push_cast; rfl
        rw [← h2]
        omega
      have e2 : bits .or .u8 (a : Int) ((b <<< sh : Nat) : Int) = ((a ||| b <<< sh : Nat) : Int) := u8_or_nat a (b <<< sh) ha HSH.out.2.2
      generalize hz : a ||| b <<< sh = z at *
      generalize b <<< sh = s at *
      clear ha
      go_wp2
      go_region
      go_wp2
      go_roundw
      case rel => exact ⟨k + 1, by omega, by go_num, by rw [← HS.out]; exact (HE.out z).1, ⟨(HE.out z).2.os, (HE.out z).2.tape, (HE.out z).2.output, (HE.out z).2.size, (HE.out z).2.block⟩⟩
      case measure => simp [intOf]; omega
    · obtain rfl : k = n := by omega
      have HE := Lib.hid (And.intro hkb hbl)
      clear hkb hbl
      go_wp2
      go_ret2
      subst hg
      exact ⟨rfl, by rw [← part_all, hl]; exact HE.out.1, HE.out.2⟩
end Go.Proofs.Ytgddenhnpjoabaa

/-
  What Take of marks returns. Conditions: the bytes are no more than ten thousand.
-/
namespace Go.Proofs.Ytgddenhnpjoabaa
open Go.RowKit
set_option linter.unusedSimpArgs false
set_option maxRecDepth 100000
set_option linter.unusedVariables false
theorem equal_any (A A' : Option Addr) (n n' c c' B B' : Nat) (bs bs' : List Nat) (w : World) (h : Bytes w B A n bs) (h' : Bytes w B' A' n' bs') :
    Calls Try.prog 52 #[.slice A n c, .slice A' n' c'] w fun e w' => e = .returned (.bool (bs == bs')) ∧ w = w' := by
  have k1 := str_of (P := Try.prog) h c 23 9 5 Try.underlying23 Try.underlying5 Try.underlying9
  have k2 := str_of (P := Try.prog) h' c' 23 9 5 Try.underlying23 Try.underlying5 Try.underlying9
  have he : ((strOf bs).toList == (strOf bs').toList) = (bs == bs') := by
    rw [Bool.eq_iff_iff, beq_iff_eq, beq_iff_eq, ByteArray.toList_eq, ByteArray.toList_eq]
    exact ⟨fun e => strOf_inj h.2 h'.2 (Go.WideShapes.bytes_inj e), fun e => by rw [e]⟩
  have HE := Lib.hid he
  generalize strOf bs = s1 at *
  generalize strOf bs' = s2 at *
  clear h h' he
  go_enter Try.func52, Try.ntmps52
  go_wp2
  go_ret
  exact ⟨by simp [HE.out], rfl⟩
theorem below_drew1 {B : Nat} {w w' : World} (h : Below B w w') : Below B w w'.drew := ⟨h.os, h.tape, h.output, h.size, h.block⟩
/-- the first k taken -/
def takeRow (b : List Nat) (k n : Nat) : List Nat := takeM b k ++ List.replicate (n - k) 0
theorem takeRow_zero (b : List Nat) (n : Nat) : takeRow b 0 n = List.replicate n 0 := by simp [takeRow, takeM]
theorem takeRow_all (b : List Nat) (n : Nat) : takeRow b n n = takeM b n := by simp [takeRow]
theorem takeRow_at (b : List Nat) {k n : Nat} (h : k < n) : (takeRow b k n)[k]? = some 0 := by
  unfold takeRow
  rw [List.getElem?_append_right (by rw [takeM_len]; omega), takeM_len, List.getElem?_replicate, if_pos (by omega)]
theorem takeRow_set (b : List Nat) {k n : Nat} (h : k < n) : (takeRow b k n).set k (unp b k) = takeRow b (k + 1) n := by
  unfold takeRow
  rw [List.set_append_right _ _ (by rw [takeM_len]; omega), takeM_len, Nat.sub_self, show n - k = (n - (k + 1)) + 1 by omega, List.replicate_succ, List.set_cons_zero, takeM_snoc, List.append_assoc]
  rfl
theorem unp_eq (b : List Nat) (k x : Nat) (h : b[2 + k / 4]? = some x) : x / 2 ^ (2 * (k % 4)) &&& 3 = unp b k := by
  unfold unp
  rw [mk_at h, show (3 : Nat) = 2 ^ 2 - 1 from rfl, Nat.and_two_pow_sub_one_eq_mod, Nat.pow_mul]
theorem count_or (x y : Nat) (hx : x < 256) (hy : y < 256) : bits .or .i64 (x : Int) ((y : Int) * 256) = ((x + 256 * y : Nat) : Int) := by
  rw [(or_step 8 x y 256 (x : Int) ((y : Int) * 256) rfl hx hy (by omega) (by omega) (byte_mod1 y hy)).2, show x + y * 256 = x + 256 * y by omega]
  unfold wrap64
  omega
/-- what Take comes to -/
def TakeTo (w : World) (bs : List Nat) (e : Ending) (w' : World) : Prop :=
  Below w.heap.size w w' ∧ ((TakeOk bs ∧ ∃ v, e = .returned (.tuple #[v, .nilIface]) ∧ Own w' w.heap.size v (countOf bs) (takeM bs (countOf bs))) ∨
    (¬ TakeOk bs ∧ e = .returned (.tuple #[.slice none 0 0, errV 2])))
set_option maxHeartbeats 2000000 in
theorem ktake_any (A : Option Addr) (n c : Nat) (bs : List Nat) (w : World) (hn : n ≤ 1000000) (hb : Bytes w w.heap.size A n bs) :
    Calls Try.prog 147 #[.slice A n c] w fun e w' => TakeTo w bs e w' := by
  have hl := hb.len
  by_cases h2 : n < 2
  · have hd : decide ((n : Int) < 2) = true := decide_eq_true (by omega)
    have HN : Hid (¬ TakeOk bs) := Lib.hid (fun h => by have := h.1; omega)
    go_enter Try.func147, Try.ntmps147
    go_wp2
    go_ret2
    exact ⟨Below.refl _ _, .inr ⟨HN.out, rfl⟩⟩
  have hd : decide ((n : Int) < 2) = false := decide_eq_false (by omega)
  obtain ⟨ad, x, rfl, hx, hx2, hcx⟩ := hb.at_ (k := 0) (by omega)
  obtain ⟨ad', y, he, hy, hy2, hcy⟩ := hb.at_ (k := 1) (by omega)
  injection he with he
  subst he
  have hcx0 : w.cell? ad = some (.int .u8 (x : Int)) := by
    have e : ad.add 0 = ad := by simp [Addr.add]
    rwa [e] at hcx
  have hcy1 := hcy
  simp [Addr.add] at hcy1
  have hn1 : 1 < n := by omega
  have hn0 : 0 < n := by omega
  have hor := count_or x y hx2 hy2
  have hw0 : IntKind.i64.wrap (x : Int) = (x : Int) := by rw [IntKind.wrap_i64]; omega
  have hw1 : IntKind.i64.wrap (y : Int) = (y : Int) := by rw [IntKind.wrap_i64]; omega
  have hw2 : IntKind.i64.wrap ((y : Int) * 256) = (y : Int) * 256 := by rw [IntKind.wrap_i64]; omega
  have hcnt : countOf bs = x + 256 * y := by unfold countOf; rw [mk_at hx, mk_at hy]
  have HC := Lib.hid hcnt
  have HB := Lib.hid hb
  clear hb hx hy hcnt
  obtain ⟨q, hq⟩ : ∃ q, q = x + 256 * y := ⟨_, rfl⟩
  rw [← hq] at hor HC
  have HQ := Lib.hid hq
  clear hq
  by_cases h256 : q ≤ 256
  · have HNew := Lib.hid (fun w => new_ok q h256 w)
    go_enter Try.func147, Try.ntmps147
    go_wp2
    refine Code.wp_mono (Q := fun e a' W' => match e with | .normal => a' = { tmps := #[.slice (some ad) n c, undef, .slice none 0 0, .nilIface, .slice (some ⟨w.heap.size, 0, none⟩) q q, .nilIface, undef, undef, undef, undef, .slice (some ad) n c, .int .i64 (n : Int), .bool false, undef, .tuple #[.slice (some ⟨w.heap.size, 0, none⟩) q q, .nilIface], .slice (some ad) n c, .pointer (some ad), .int .u8 (x : Int), .int .i64 (x : Int), .slice (some ad) n c, .pointer (some { block := ad.block, off := ad.off + 1 }), .int .u8 (y : Int), .int .i64 (y : Int), .int .i64 ((y : Int) * 256), .int .i64 (q : Int), .tuple #[.slice (some ⟨w.heap.size, 0, none⟩) q q, .nilIface], .slice (some ⟨w.heap.size, 0, none⟩) q q, .nilIface, undef, undef, undef, undef, undef, undef, undef, undef, undef, undef, undef, undef, undef, undef, undef, undef, undef, undef, undef, undef, undef, undef, undef, undef, undef, undef, undef, undef, undef, undef, undef, undef, undef, undef, undef, undef, undef, undef, undef, undef, undef, undef, undef, undef, undef, undef, undef], defers := [] } ∧ W' = (w.alloc (.cells (u8s (List.replicate q 0)).toArray 5)).drew | _ => False) ?_ ?_
    rotate_left
    · go_region_with (go_at_call 165; refine (HNew.out w.drew).mono ?_; rintro e w2 ⟨he, hw⟩; subst he; subst hw)
      all_goals exact ⟨rfl, rfl⟩
    · intro e a' W' hq
      cases e <;> first | exact hq.elim | skip
      obtain ⟨rfl, rfl⟩ := hq
      have K2 : Blk (w.alloc (.cells (u8s (List.replicate q 0)).toArray 5)).drew w.heap.size 5 (u8s (List.replicate q 0)).toArray := (Blk.new w 5 (u8s (List.replicate q 0)).toArray).drew
      have B2 : Below w.heap.size w (w.alloc (.cells (u8s (List.replicate q 0)).toArray 5)).drew := below_drew1 (below_alloc w _)
      have HK := Lib.hid (And.intro K2 B2)
      clear K2 B2 HNew hor hw0 hw1 hw2 hcx hcx0 hcy hcy1
      generalize (w.alloc (.cells (u8s (List.replicate q 0)).toArray 5)).drew = w2 at *
      have HZ := Lib.hid (size_any q w2 (by omega))
      obtain ⟨P, hP⟩ : ∃ P, P = 2 + (q + 3) / 4 := ⟨_, rfl⟩
      rw [← hP] at HZ
      have HP := Lib.hid hP
      clear hP
      by_cases hlen : n = P
      · have hne : ((n : Int) != (P : Int)) = false := by simp [hlen]
        have HLEN := Lib.hid hlen
        clear hlen
        generalize hg : w.heap.size = g at *
        go_wp2_with fail
        refine HZ.out.mono ?_
        rintro e w3 ⟨he, hw⟩
        subst he
        subst hw
        clear HZ
        go_wp2
        go_loopw [41] (fun i wr => ∃ k : Nat, k ≤ q ∧ i = .int .i64 k ∧ Blk wr g 5 (u8s (takeRow bs k q)).toArray ∧ Below g w wr) (fun i _ => q - (intOf i).toNat)
        case atStart => exact ⟨0, by omega, rfl, by rw [takeRow_zero]; exact HK.out.1, HK.out.2⟩
        case round =>
          obtain ⟨k, hk, rfl, hkb, hbl⟩ := hrel
          clear HK
          by_cases hlt : k < q
          · have hat0 : 2 + k / 4 < n := by have := HP.out; have := HLEN.out; omega
            obtain ⟨adx, z, he, hz, hz2, hcz⟩ := (HB.out.below hbl).at_ hat0
            injection he with he
            subst he
            have hpl := place_any k wr (by omega)
            have hcell := hkb.cell8 (takeRow_at bs hlt)
            have hfz := hkb.frozen k
            have hun := unp_eq bs k z hz
            obtain ⟨at_, hat⟩ : ∃ at_, at_ = 2 + k / 4 := ⟨_, rfl⟩
            obtain ⟨sh, hsh⟩ : ∃ sh, sh = 2 * (k % 4) := ⟨_, rfl⟩
            rw [← hat] at hcz hpl hat0
            rw [← hsh] at hpl hun
            have e1 : ((z : Int) / 2 ^ sh) = ((z / 2 ^ sh : Nat) : Int) := by push_cast; rfl
            have hle : z / 2 ^ sh < 256 := Nat.lt_of_le_of_lt (Nat.div_le_self _ _) hz2
            have e2 : bits .and .u8 ((z / 2 ^ sh : Nat) : Int) 3 = ((unp bs k : Nat) : Int) := by
              rw [← hun]
              exact u8_and_nat (z / 2 ^ sh) 3 hle (by omega)
            have hsh2 : sh ≤ 6 := by omega
            have HPL := Lib.hid hpl
            have HS := Lib.hid (takeRow_set bs hlt)
            have HE := Lib.hid (fun v : Nat => And.intro (hkb.set8 k v) (hbl.setCell (p := ⟨g, k, none⟩) (Nat.le_refl _) (.int .u8 (v : Int))))
            generalize unp bs k = un at *
            generalize z / 2 ^ sh = zs at *
            clear hkb hbl hun hpl hz hat hsh hle
            go_wp2_with fail
            refine HPL.out.mono ?_
            rintro e w3 ⟨he, hw⟩
            subst he
            subst hw
            clear HPL
            go_wp2
            go_roundw
            case rel => exact ⟨k + 1, by omega, by go_num, by rw [← HS.out]; exact (HE.out un).1, (HE.out un).2⟩
            case measure => simp [intOf]; omega
          · obtain rfl : k = q := by omega
            have HE := Lib.hid (And.intro hkb hbl)
            clear hkb hbl
            rw [takeRow_all] at HE
            have hgood : Good (takeM bs k) := ⟨by rw [takeM_len]; omega, takeM_le bs k⟩
            have hbw : Bytes wr wr.heap.size (some ⟨g, 0, none⟩) k (takeM bs k) := HE.out.1.bytes (takeM_len bs k) (fun b hb => by have := takeM_le bs k b hb; omega)
            have HPut := Lib.hid (put_ok (some ⟨g, 0, none⟩) k k (takeM bs k) wr hbw hgood)
            have hpl2 : (putM (takeM bs k)).length = 2 + (k + 3) / 4 := by rw [putM_len, takeM_len]
            have hpb := putM_lt hgood
            have HPB := Lib.hid (And.intro hpl2 hpb)
            have HG := Lib.hid hgood
            clear hbw hgood hpl2 hpb
            go_wp2_with fail
            refine HPut.out.mono ?_
            rintro e w3 ⟨he, k3, b3⟩
            subst he
            have hmo := HE.out.2.size
            have hbb : Bytes w3 g (some ad) n bs := (HB.out.below HE.out.2).below (b3.mono (by omega))
            have HEq := Lib.hid (equal_any (some ⟨wr.heap.size, 0, none⟩) (some ad) _ n (2 + (k + 3) / 4) c _ _ _ bs w3 (k3.bytes HPB.out.1 HPB.out.2) hbb)
            have HB3 := Lib.hid (HE.out.2.trans (b3.mono (by omega)))
            have HKm : Hid (Blk w3 g 5 (u8s (takeM bs k)).toArray) := Lib.hid (HE.out.1.below b3 HE.out.1.lt)
            clear hbb k3 b3 HPut
            go_wp2_with fail
            refine HEq.out.mono ?_
            rintro e w4 ⟨he, hw⟩
            subst he
            subst hw
            by_cases heq : putM (takeM bs k) = bs
            · have hb1 : (putM (takeM bs k) == bs) = true := by simpa using heq
              have HN : Hid (TakeOk bs) := Lib.hid ⟨by omega, by rw [HC.out]; exact h256, by rw [HC.out, ← HP.out, ← HLEN.out]; exact hl, by rw [HC.out]; exact heq⟩
              rw [hb1]
              clear hb1 heq
              go_wp2
              go_ret2
              subst hg
              exact ⟨HB3.out, .inl ⟨HN.out, _, rfl, by rw [HC.out]; exact Own.of_blk HKm.out (takeM_len _ _) (Nat.le_refl _) (by omega)⟩⟩
            · have hb1 : (putM (takeM bs k) == bs) = false := by simpa using heq
              have HN : Hid (¬ TakeOk bs) := Lib.hid (fun h => heq (by have := h.2.2.2; rwa [HC.out] at this))
              rw [hb1]
              clear hb1 heq
              go_wp2
              go_ret2
              subst hg
              exact ⟨HB3.out, .inr ⟨HN.out, rfl⟩⟩
      · have HN : Hid (¬ TakeOk bs) := Lib.hid (fun h => by have := h.2.2.1; rw [HC.out, ← HP.out] at this; omega)
        have hne : ((n : Int) != (P : Int)) = true := by simp; omega
        go_wp2_with fail
        refine HZ.out.mono ?_
        rintro e w3 ⟨he, hw⟩
        subst he
        subst hw
        go_wp2
        go_ret2
        exact ⟨HK.out.2, .inr ⟨HN.out, rfl⟩⟩
  · have HNew := Lib.hid (fun w => new_bad (q : Int) (by omega) w)
    have HN : Hid (¬ TakeOk bs) := Lib.hid (fun h => by have := h.2.1; rw [HC.out] at this; omega)
    go_enter Try.func147, Try.ntmps147
    go_wp2
    go_region_with (go_at_call 165; refine (HNew.out w.drew).mono ?_; rintro e w2 ⟨he, hw⟩; subst he; subst hw)
    all_goals
      simp only [errV]
      go_wp2
      go_ret2
      exact ⟨below_drew' (Below.refl _ _), .inr ⟨HN.out, rfl⟩⟩
end Go.Proofs.Ytgddenhnpjoabaa

/-
  The document's Good, Mark, Sized, Frozen, Changed and Scan. Conditions: the rows read as bytes and flags, of no more than ten thousand.
-/
namespace Go.Proofs.Ytgddenhnpjoabaa
open Go.RowKit
set_option linter.unusedSimpArgs false
set_option maxRecDepth 100000
set_option linter.unusedVariables false
theorem dgood_any (A : Option Addr) (n c B : Nat) (bs : List Nat) (w : World) (hn : n ≤ 1000000) (h : Bytes w B A n bs) :
    Calls Try.prog 92 #[.slice A n c] w fun e w' => e = .returned (.bool (decide (Good bs))) ∧ w = w' := by
  have hl := h.len
  have H := Lib.hid h
  clear h
  by_cases h1 : n ≤ 256
  · have hd : decide ((256 : Int) < (n : Int)) = false := decide_eq_false (by omega)
    go_enter Try.func92, Try.ntmps92
    go_wp2
    go_loopw [3] (fun i wr => ∃ k : Nat, k ≤ n ∧ i = .int .i64 k ∧ wr = w ∧ ∀ j b, j < k → bs[j]? = some b → b ≤ 3) (fun i _ => n - (intOf i).toNat)
    case atStart => exact ⟨0, by omega, rfl, by trivial, fun j b h => by omega⟩
    case round =>
      obtain ⟨k, hk, rfl, rfl, hall⟩ := hrel
      have HA := Lib.hid hall
      clear hall
      by_cases hlt : k < n
      · obtain ⟨ad, b, rfl, hb, hb2, hc⟩ := H.out.at_ hlt
        have HB := Lib.hid hb
        clear hb
        by_cases hok : b ≤ 3
        · have hd2 : decide ((3 : Int) < (b : Int)) = false := decide_eq_false (by omega)
          go_wp2
          go_roundw
          case rel => exact ⟨k + 1, by omega, by go_num, by trivial, fun j b' hj hb' => by
            rcases Nat.lt_succ_iff_lt_or_eq.1 hj with h | rfl
            · exact HA.out j b' h hb'
            · rw [HB.out] at hb'; injection hb' with hb'; subst hb'; exact hok⟩
          case measure => simp [intOf]; omega
        · have hd2 : decide ((3 : Int) < (b : Int)) = true := decide_eq_true (by omega)
          have HG : Hid (decide (Good bs) = false) := Lib.hid (decide_eq_false (fun hg => hok (hg.2 b (List.mem_of_getElem? HB.out))))
          go_wp2
          go_ret
          exact ⟨by rw [HG.out]; rfl, rfl⟩
      · obtain rfl : k = n := by omega
        have HG : Hid (decide (Good bs) = true) := Lib.hid (decide_eq_true ⟨by omega, fun x hx => by
          obtain ⟨j, hj, rfl⟩ := List.mem_iff_getElem.1 hx
          exact HA.out j _ (by omega) (List.getElem?_eq_getElem hj)⟩)
        go_wp2
        go_ret
        exact ⟨by rw [HG.out]; rfl, rfl⟩
  · have hd : decide ((256 : Int) < (n : Int)) = true := decide_eq_true (by omega)
    have HG : Hid (decide (Good bs) = false) := Lib.hid (decide_eq_false (fun hg => by have := hg.1; omega))
    go_enter Try.func92, Try.ntmps92
    go_wp2
    go_ret
    exact ⟨by rw [HG.out]; rfl, rfl⟩
/-- bytes of the call's own, and what was there stands -/
def OwnB (w w' : World) (v : Value) (bs : List Nat) : Prop := Own w' w.heap.size v bs.length bs ∧ Below w.heap.size w w'
theorem OwnB.one {w w1 w2 : World} {v v2 : Value} {bs : List Nat} {b : Nat} {t : TypeId} {f : Nat × Nat} {cs : Array Value} (h : OwnB w w1 v bs) (h5 : Own w2 w.heap.size v2 (bs.length + 1) (bs ++ [b])) (hg : (w1.alloc (.cells cs t f)).grownBy w2 v.ownBlock) : OwnB w w2 v2 (bs ++ [b]) := by
  have hb := h.2.alloc h.2.size (.cells cs t f)
  refine ⟨by rw [List.length_append]; exact h5, hb.grown hg hb.size (fun b hb' => by have := (World.ownsRow.lt h.1 b hb').1; omega)⟩
end Go.Proofs.Ytgddenhnpjoabaa

/-
  The document's Changed and Put. Conditions: the rows read as bytes, of no more than ten thousand; what is put are marks.
-/
namespace Go.Proofs.Ytgddenhnpjoabaa
open Go.RowKit
set_option linter.unusedSimpArgs false
set_option maxRecDepth 100000
set_option linter.unusedVariables false
theorem four_step (m : List Nat) (j : Nat) : packB m j = mk m (4 * j) + 4 * (mk m (4 * j + 1) + 4 * (mk m (4 * j + 2) + 4 * mk m (4 * j + 3))) := by
  unfold packB; omega
/-- the number behind i rounds of the inner loop -/
def horner (m : List Nat) (j : Nat) : Nat → Nat
  | 0 => 0
  | 1 => mk m (4 * j + 3)
  | 2 => mk m (4 * j + 2) + 4 * mk m (4 * j + 3)
  | 3 => mk m (4 * j + 1) + 4 * (mk m (4 * j + 2) + 4 * mk m (4 * j + 3))
  | _ => packB m j
theorem horner_step (m : List Nat) (j i : Nat) (hi : i < 4) : horner m j (i + 1) = 4 * horner m j i + mk m (4 * j + (3 - i)) := by
  match i, hi with
  | 0, _ => simp [horner]
  | 1, _ => simp [horner]; omega
  | 2, _ => simp [horner]; omega
  | 3, _ => simp [horner, packB]; omega
theorem horner_lt {m : List Nat} (h : ∀ x ∈ m, x ≤ 3) (j i : Nat) (hi : i ≤ 4) : horner m j i < 256 := by
  have h0 := mk_le h (4 * j)
  have h1 := mk_le h (4 * j + 1)
  have h2 := mk_le h (4 * j + 2)
  have h3 := mk_le h (4 * j + 3)
  match i, hi with
  | 0, _ => simp [horner]
  | 1, _ => simp [horner]; omega
  | 2, _ => simp [horner]; omega
  | 3, _ => simp [horner]; omega
  | 4, _ => simp [horner, packB]; omega
set_option maxHeartbeats 800000 in
theorem dput_any (A : Option Addr) (n c : Nat) (bs : List Nat) (w : World) (h : Bytes w w.heap.size A n bs) (hg : Good bs) :
    Calls Try.prog 102 #[.slice A n c] w fun e w' => ∃ v, e = .returned v ∧ OwnB w w' v (putM bs) := by
  have hl := h.len
  have hn : n ≤ 256 := by have := hg.1; omega
  have H := Lib.hid h
  have HG := Lib.hid hg
  clear h hg
  go_enter Try.func102, Try.ntmps102
  go_wp2
  have HK : Hid (OwnB w (w.alloc (.cells #[.int .u8 ((n : Int) % 256), .int .u8 ((n : Int) / 256)] 5)) (.slice (some ⟨w.heap.size, 0, none⟩) 2 2) ([n % 256, n / 256] ++ packs bs 0)) := Lib.hid ⟨Own.of_blk (bs := [n % 256, n / 256] ++ packs bs 0) (by
      have := Blk.new w 5 (u8s [n % 256, n / 256]).toArray
      simpa [u8s, u8, packs] using this) rfl (Nat.le_refl _) (by omega), below_alloc _ _⟩
  generalize w.alloc (.cells #[.int .u8 ((n : Int) % 256), .int .u8 ((n : Int) / 256)] 5) = w1 at *
  go_loopw [3, 4] (fun v i wr => ∃ j k : Nat, k = 4 * j ∧ k ≤ n + 3 ∧ i = .int .i64 k ∧ OwnB w wr v ([n % 256, n / 256] ++ packs bs j)) (fun _ i _ => n + 3 - (intOf i).toNat)
  case atStart => exact ⟨0, 0, rfl, by omega, rfl, HK.out⟩
  case round =>
    obtain ⟨j, k, hkj, hkn, rfl, ho⟩ := hrel
    have HO := Lib.hid ho
    have HKJ := Lib.hid hkj
    clear ho HK hkj
    by_cases hlt : k < n
    · rename World => wo
      go_wp2
      go_loopw [5, 6] (fun nv kv wr => ∃ (r : Nat) (t : Int), r ≤ 4 ∧ t = 3 - (r : Int) ∧ nv = .int .i64 (horner bs j r : Nat) ∧ kv = .int .i64 t ∧ wr = wo) (fun _ kv _ => (intOf kv + 1).toNat)
      case atStart => exact ⟨0, 3, by omega, by omega, rfl, rfl, by trivial⟩
      case round =>
        obtain ⟨r, t, hr4, ht, rfl, rfl, rfl⟩ := hrel
        have hh := horner_lt HG.out.2 j r hr4
        by_cases hr : r < 4
        · have hst := horner_step bs j r hr
          obtain ⟨q, hq⟩ : ∃ q, q = 4 * j + (3 - r) := ⟨_, rfl⟩
          obtain ⟨tn, htn⟩ : ∃ tn : Nat, tn = 3 - r := ⟨_, rfl⟩
          have htt : t = (tn : Int) := by omega
          rw [← hq] at hst
          have HT := Lib.hid (And.intro ht (And.intro hq htn))
          have hh2 := horner_lt HG.out.2 j (r + 1) (by omega)
          have HS := Lib.hid hst
          have htn3 : tn ≤ 3 := by omega
          have hsum : (k : Int) + (tn : Int) = (q : Int) := by have := HKJ.out; omega
          have hq2 : q ≤ 1000 := by have := HKJ.out; omega
          subst htt
          clear ht hq htn hst hh2
          by_cases hqn : q < n
          · have hd : decide ((q : Int) < (n : Int)) = true := decide_eq_true (by omega)
            obtain ⟨ad, b, rfl, hb, hb2, hc⟩ := (H.out.below HO.out.2).at_ hqn
            have HM := Lib.hid (mk_at hb)
            clear hb
            generalize hz : horner bs j r = z at *
            have HZ := Lib.hid hz
            clear hz
            go_wp2
            refine ⟨⟨r + 1, (tn : Int) - 1, by omega, by have := HT.out.1; push_cast; omega, ?_, rfl, by trivial⟩, by simp only [intOf]; omega⟩
            rw [HS.out, HM.out]
            push_cast
            rfl
          · have hd : decide ((q : Int) < (n : Int)) = false := decide_eq_false (by omega)
            have HM : Hid (mk bs q = 0) := Lib.hid (mk_over (by omega))
            generalize hz : horner bs j r = z at *
            have HZ := Lib.hid hz
            clear hz
            go_wp2
            refine ⟨⟨r + 1, (tn : Int) - 1, by omega, by have := HT.out.1; push_cast; omega, ?_, rfl, by trivial⟩, by simp only [intOf]; omega⟩
            rw [HS.out, HM.out]
            push_cast
            rw [Int.add_zero]
        · obtain rfl : r = 4 := by omega
          have ht1 : t = -1 := by omega
          subst ht1
          have hz4 : horner bs j 4 = packB bs j := rfl
          rw [hz4] at hh ⊢
          have HS : Hid ([n % 256, n / 256] ++ packs bs (j + 1) = ([n % 256, n / 256] ++ packs bs j) ++ [packB bs j]) := Lib.hid (by rw [packs_snoc, List.append_assoc])
          clear hz4 ht
          generalize packB bs j = z at *
          have hln : ([n % 256, n / 256] ++ packs bs j).length = 2 + j := by rw [List.length_append, packs_len]; rfl
          generalize [n % 256, n / 256] ++ packs bs j = row at *
          have hj3 : j ≤ 1000 := by have := HKJ.out; omega
          have hsz := HO.out.2.size
          have HW := Lib.hid (fun (z : Int) t f => World.ownsRow.alloc HO.out.1 (.cells #[.int .u8 z] t f))
          go_wp2_with (refine app_bytes (.tmp 43) (.tmp 46) rfl rfl w.heap.size _ _ _ rfl (HW.out _ _ _) _ _ 1 1 [z] rfl (Bytes.new wr [z] _ _ (by intro x hx; simp at hx; subst hx; exact hh)) (by rw [hln]; omega) (by simp; omega) ?_
                       intro v5 w5 h5 g5 a5
                       have HV := Lib.hid (HO.out.one h5 g5)
                       clear h5 g5)
          exact ⟨⟨j + 1, k + 4, by have := HKJ.out; omega, by omega, by go_num, by rw [HS.out]; exact HV.out⟩, by simp only [intOf]; omega⟩
    · obtain rfl : j = (n + 3) / 4 := by have := HKJ.out; omega
      have HR : Hid ([n % 256, n / 256] ++ packs bs ((n + 3) / 4) = putM bs) := Lib.hid (by unfold putM; rw [hl])
      go_wp2
      go_ret
      exact ⟨_, rfl, by rw [← HR.out]; exact HO.out⟩
end Go.Proofs.Ytgddenhnpjoabaa
