/-
  Spaces: new ones, copies; blocks that are claimed and given back. Conditions: a space stands as it is said to.
-/
import Derived.Test.YtliockcbnmbhnaaSn
import Derived.Test.YtliockcbnmbhnaaRegL
namespace Go.Proofs.Ytliockcbnmbhnaa
open Go.RowKit Go.BigFrame
set_option linter.unusedSimpArgs false
set_option linter.unusedVariables false
theorem snew_bad (n : Int) (h : n < 0 ∨ 65536 < n) (w : World) : Calls Try.prog 10 #[.int .i64 n] w fun e w' => e = .returned (.tuple #[.pointer none, errV 1]) ∧ w = w' := by
  by_cases h1 : n < 0
  · have hd : decide (n < 0) = true := decide_eq_true h1
    clear h
    go_enter Try.func10, Try.ntmps10
    go_wp2
    go_ret2
    exact ⟨rfl, rfl⟩
  · have hd : decide (n < 0) = false := decide_eq_false h1
    have hd2 : decide ((65536 : Int) < n) = true := decide_eq_true (by omega)
    clear h
    go_enter Try.func10, Try.ntmps10
    go_wp2
    go_ret2
    exact ⟨rfl, rfl⟩
theorem cnt_all (n : Nat) : cnt (List.replicate n true) = n := by simp [cnt, List.countP_replicate]
/-- a space of the call's own -/
def NewS (w : World) (fl : List Bool) (p : Value) (w' : World) : Prop := ∃ g r A c, p = .pointer (some ⟨g, 0, none⟩) ∧ SAt w' g r A c fl (cnt fl) ∧ g ≠ r ∧ w.heap.size ≤ g ∧ w.heap.size ≤ r ∧ Below w.heap.size w w'
set_option maxHeartbeats 1000000 in
theorem snew_any (n : Nat) (hn : n ≤ 65536) (w : World) : Calls Try.prog 10 #[.int .i64 n] w fun e w' => ∃ p, e = .returned (.tuple #[p, .nilIface]) ∧ NewS w (List.replicate n true) p w' := by
  have hd : decide ((n : Int) < 0) = false := decide_eq_false (by omega)
  have hd2 : decide ((65536 : Int) < (n : Int)) = false := decide_eq_false (by omega)
  have hbs : ∀ w : World, (Instr.buildSlice 33 1 #[(0, .bool true)]).run Try.prog w = .ok (.slice (some ⟨w.heap.size, 0, none⟩) 1 1) (w.alloc (.cells #[.bool true] 4)) := fun w => run_buildSlice_one (size := 1) Try.underlying33 (by kernel_rfl) (by omega) (by omega) rfl w
  have HR := Lib.hid (repeat_any n w.heap.size hn (w.alloc (.cells #[.bool true] 4)) ((Blk.new w 4 #[.bool true]).cell 0) (by simp))
  go_enter Try.func10, Try.ntmps10
  go_wp2_with fail
  refine HR.out.mono ?_
  rintro e w' ⟨r, rfl, hr, hB, hb⟩
  simp only [World.size_alloc] at hr hb
  have H := Lib.hid (And.intro hr (And.intro hB hb))
  clear hr hB hb
  go_wp2
  go_ret2
  obtain ⟨hr, hB, hb⟩ := H.out
  have hs := hb.size
  have hlt := hB.lt
  refine ⟨_, rfl, w'.heap.size, r, some ⟨r, 0, none⟩, n, rfl, ⟨?_, by simp, by simpa using hn, ?_⟩, by omega, by omega, by omega, ?_⟩
  · rw [cnt_all, List.length_replicate]
    exact Blk.new _ _ _
  · refine .inr ⟨rfl, _, hB.alloc _, fun j v hj => ?_⟩
    rw [List.getElem?_replicate] at hj
    split at hj
    · injection hj with hj
      subst hj
      simp [*]
    · cases hj
  · have h1 : Below w.heap.size w (w.alloc (.cells #[.bool true] 4)) := (Below.refl _ _).alloc (Nat.le_refl _) _
    exact (h1.trans (hb.mono (by omega))).alloc (by omega) _
theorem flagsS_one (l : List Bool) : ∀ u ∈ flagsS l, u.oneCell' = true := by
  intro u hu
  obtain ⟨b, _, rfl⟩ := List.mem_map.1 hu
  rfl
set_option maxHeartbeats 1000000 in
theorem sclone_any {w : World} {B c : Nat} {A : Option Addr} {fl : List Bool} (hl : fl.length ≤ 65536) (hR : Reads w B 1 A fl.length (flagsS fl)) (hB : B ≤ w.heap.size) :
    Calls Try.prog 36 #[.slice A fl.length c] w fun e w' => ∃ v, e = .returned v ∧ w'.ownsRow w.heap.size 4 1 v fl.length (flagsS fl) ∧ Below w.heap.size w w' := by
  have qT : ∀ (w : World) (a : Option Addr) (n c n' c' : Nat), (binOp .eql 33 (.slice a n c) (.slice none n' c')).run Try.prog w = .ok (.bool a.isNone) w := fun w a n c n' c' => Lib.run_eql_slice_nil w _ _ a n c n' c' Try.underlying33
  rcases A with _ | ad
  · have h0 : fl = [] := by
      rcases Nat.eq_zero_or_pos fl.length with h | h
      · exact List.eq_nil_of_length_eq_zero h
      · obtain ⟨ad, e, _⟩ := hR.2 h
        cases e
    subst h0
    go_enter Try.func36, Try.ntmps36
    go_wp2
    go_ret
    exact ⟨_, rfl, World.ownsRow_nil w _ _ 1, Below.refl _ _⟩
  · have HR := Lib.hid hR
    have hbs : ∀ w : World, (Instr.buildSlice 33 0 #[]).run Try.prog w = .ok (.slice (some ⟨w.heap.size, 0, none⟩) 0 0) (w.alloc (.cells #[] 4)) := fun w => by kernel_rfl
    have hown : (w.alloc (.cells #[] 4)).ownsRow w.heap.size 4 1 (.slice (some ⟨w.heap.size, 0, none⟩) 0 0) 0 [] := World.ownsRow_lit w #[] 0 (Nat.le_refl _) (by simp [maxLen]) rfl
    have HO := Lib.hid hown
    have HB := Lib.hid (Below.alloc (Below.refl w.heap.size w) (Nat.le_refl _) (.cells #[] 4))
    obtain ⟨i0, hi0, hz0, hz1, hz2⟩ := info_parts bool_info
    clear hR hown
    go_enter Try.func36, Try.ntmps36
    go_wp2_with (refine wpList_append_any _ rfl (.tmp 5) (.tmp 6) _ rfl w.heap.size 4 i0 _ 1 1 Try.underlying33 hi0 hz0 hz1 hz2 rfl (by omega) (.slice (some ⟨w.heap.size, 0, none⟩) 0 0) 0 [] rfl HO.out B (some ad) fl.length c (flagsS fl) rfl (HR.out.alloc hB _) (flagsS_one _) (by simp [maxLen]; omega) (by omega) (by simp) ?_; intro v2 w2 h2 g2 a2)
    have hb2 : Below w.heap.size w w2 := HB.out.grown g2 (by simp) (fun j hj => by simp [Value.ownBlock] at hj; omega)
    have H2 := Lib.hid (And.intro h2 hb2)
    clear h2 hb2 g2 a2
    go_wp2
    go_ret
    have := H2.out.1
    simp only [Nat.zero_add, List.nil_append] at this
    exact ⟨v2, rfl, this, H2.out.2⟩
theorem frow_of_own {w : World} {base c : Nat} {fl : List Bool} {v : Value} (h : w.ownsRow base 4 1 v fl.length (flagsS fl)) : ∃ A c r, v = .slice A fl.length c ∧ fl.length ≤ c ∧ FRow w r A fl ∧ (fl ≠ [] → base ≤ r ∧ r < w.heap.size) := by
  rcases h.2 with ⟨rfl, h0⟩ | ⟨g, cap, cur, rfl, hb, hh, hn, hm, hs, ht⟩
  · exact ⟨none, 0, 0, by rw [h0], by omega, .inl (List.eq_nil_of_length_eq_zero h0), fun hne => absurd (List.eq_nil_of_length_eq_zero h0) hne⟩
  · refine ⟨_, cap, g, rfl, hn, .inr ⟨rfl, cur, hh, fun j v hj => ?_⟩, fun _ => ⟨hb, Blk.lt (t := 4) hh⟩⟩
    have h1 : (flagsS fl)[j]? = some (.bool v) := by simp [flagsS, hj]
    rw [← ht, List.getElem?_take] at h1
    split at h1
    · simpa using h1
    · cases h1
set_option maxHeartbeats 1000000 in
theorem scopy_any {w : World} {g r c : Nat} {A : Option Addr} {fl : List Bool} (h : SAt w g r A c fl (cnt fl)) : Calls Try.prog 25 #[.pointer (some ⟨g, 0, none⟩)] w fun e w' => ∃ p, e = .returned p ∧ NewS w fl p w' := by
  have q0 : w.cell? ⟨g, 0, none⟩ = some (.slice A fl.length c) := h.blk.cell 0
  have q1 : w.cell? ⟨g, 1, none⟩ = some (.int .i64 (cnt fl)) := h.blk.cell 1
  have hlim := h.lim
  have hgl := h.blk.lt
  have hrd : Reads w w.heap.size 1 A fl.length (flagsS fl) := by
    rcases h.row with e | ⟨_, cs, hb, _⟩
    · subst e; exact ⟨rfl, fun h => by simp at h⟩
    · exact h.row.reads.more hb.lt
  have HC := Lib.hid (fun wx (hx : ∃ q, wx = w.drewN q) => (show Calls Try.prog 36 #[.slice A fl.length c] wx fun e w' => ∃ A2 c2 r2, e = .returned (.slice A2 fl.length c2) ∧ fl.length ≤ c2 ∧ FRow w' r2 A2 fl ∧ (fl ≠ [] → w.heap.size ≤ r2 ∧ r2 < w'.heap.size) ∧ Below w.heap.size w w' from by
    obtain ⟨q, rfl⟩ := hx
    refine (sclone_any (w := w.drewN q) hlim (hrd.drewN q) (Nat.le_refl _)).mono ?_
    rintro e w' ⟨v, rfl, ho, hb⟩
    obtain ⟨A2, c2, r2, rfl, h1, h2, h3⟩ := frow_of_own (base := w.heap.size) (c := 0) ho
    exact ⟨A2, c2, r2, rfl, h1, h2, h3, hb.os, hb.tape, hb.output, hb.size, hb.block⟩))
  clear h hrd
  go_enter Try.func25, Try.ntmps25
  go_wp2
  go_region_with (go_at_call 36; refine (HC.out _ ⟨1, rfl⟩).mono ?_; rintro e w2 ⟨A2, c2, r2, rfl, ho1, ho2, ho3, hb⟩; obtain ⟨hc, hf⟩ : (∀ b o, b < w.heap.size → w2.cell? ⟨b, o, none⟩ = w.cell? ⟨b, o, none⟩) ∧ (∀ b o, b < w.heap.size → w2.frozen? ⟨b, o, none⟩ = w.frozen? ⟨b, o, none⟩) := ⟨fun b o h => hb.cell (p := ⟨b, o, none⟩) h, fun b o h => hb.frozen (p := ⟨b, o, none⟩) h⟩)
  all_goals
    have HX := Lib.hid (And.intro ho1 (And.intro ho2 (And.intro ho3 hb)))
    clear ho1 ho2 ho3 hb hc hf
    go_wp2
    go_ret
    obtain ⟨h1, h2, h3, h4⟩ := HX.out
    have hz := h4.size
    refine ⟨_, rfl, ?_⟩
    rcases h2 with h2 | h2
    · exact ⟨w2.heap.size, w2.heap.size + 1, A2, c2, rfl, ⟨Blk.new _ _ _, h1, hlim, .inl h2⟩, by omega, by omega, by omega, h4.alloc (by omega) _⟩
    · have h5 : fl = [] ∨ (w.heap.size ≤ r2 ∧ r2 < w2.heap.size) := by
        by_cases e : fl = []
        · exact .inl e
        · exact .inr (h3 e)
      rcases h5 with h5 | h5
      · exact ⟨w2.heap.size, w2.heap.size + 1, A2, c2, rfl, ⟨Blk.new _ _ _, h1, hlim, .inl h5⟩, by omega, by omega, by omega, h4.alloc (by omega) _⟩
      · exact ⟨w2.heap.size, r2, A2, c2, rfl, ⟨Blk.new _ _ _, h1, hlim, .inr ⟨h2.1, h2.2.choose, h2.2.choose_spec.1.alloc _, h2.2.choose_spec.2⟩⟩, by omega, by omega, by omega, h4.alloc (by omega) _⟩
theorem scopy_nil (w : World) : Calls Try.prog 25 #[.pointer none] w fun e w' => e = .returned (.pointer none) ∧ w = w' := by
  go_enter Try.func25, Try.ntmps25
  go_wp2
  go_ret
  exact ⟨rfl, rfl⟩
theorem sclaim_any {w : World} {g r c B : Nat} {A : Option Addr} {fl : List Bool} (es : List (Int × Int)) (hI : ∀ e ∈ es, InI e) (h : SAt w g r A c fl (cnt fl)) (hgr : g ≠ r) (E : Option Addr) (c' : Nat) (hc' : es.length ≤ c') (hR : ExtR w B E es) (hB : B ≤ w.heap.size)
    (hfar : ∀ ad, E = some ad → ad.block ≠ g ∧ ad.block ≠ r) (hle : es.length ≤ 65536) :
    Calls Try.prog 20 #[.pointer (some ⟨g, 0, none⟩), .slice E es.length c'] w (TurnTo w g r c A fl es false) := by
  have HC := Lib.hid (sturn_any es false hI h hgr E c' hc' hR hB hfar hle)
  clear hI h hR hfar
  go_enter Try.func20, Try.ntmps20
  go_wp2_with fail
  refine HC.out.mono ?_
  rintro e w' ⟨ho, ⟨ns, h1, rfl, h2⟩ | ⟨h1, rfl, h2⟩⟩
  · have HX := Lib.hid (And.intro ho (And.intro h1 h2))
    clear ho h1 h2
    go_wp2
    go_ret
    exact ⟨HX.out.1, .inl ⟨ns, HX.out.2.1, rfl, HX.out.2.2⟩⟩
  · have HX := Lib.hid (And.intro ho (And.intro h1 h2))
    clear ho h1 h2
    go_wp2
    go_ret
    exact ⟨HX.out.1, .inr ⟨HX.out.2.1, rfl, HX.out.2.2⟩⟩
theorem sgive_any {w : World} {g r c B : Nat} {A : Option Addr} {fl : List Bool} (es : List (Int × Int)) (hI : ∀ e ∈ es, InI e) (h : SAt w g r A c fl (cnt fl)) (hgr : g ≠ r) (E : Option Addr) (c' : Nat) (hc' : es.length ≤ c') (hR : ExtR w B E es) (hB : B ≤ w.heap.size)
    (hfar : ∀ ad, E = some ad → ad.block ≠ g ∧ ad.block ≠ r) (hle : es.length ≤ 65536) :
    Calls Try.prog 18 #[.pointer (some ⟨g, 0, none⟩), .slice E es.length c'] w (TurnTo w g r c A fl es true) := by
  have HC := Lib.hid (sturn_any es true hI h hgr E c' hc' hR hB hfar hle)
  clear hI h hR hfar
  go_enter Try.func18, Try.ntmps18
  go_wp2_with fail
  refine HC.out.mono ?_
  rintro e w' ⟨ho, ⟨ns, h1, rfl, h2⟩ | ⟨h1, rfl, h2⟩⟩
  · have HX := Lib.hid (And.intro ho (And.intro h1 h2))
    clear ho h1 h2
    go_wp2
    go_ret
    exact ⟨HX.out.1, .inl ⟨ns, HX.out.2.1, rfl, HX.out.2.2⟩⟩
  · have HX := Lib.hid (And.intro ho (And.intro h1 h2))
    clear ho h1 h2
    go_wp2
    go_ret
    exact ⟨HX.out.1, .inr ⟨HX.out.2.1, rfl, HX.out.2.2⟩⟩
end Go.Proofs.Ytliockcbnmbhnaa
