/-
  Good views, a snapshot's children. Conditions: they read as they are said to.
-/
import Derived.Test.YtiimanoloedbeaaOa
import Derived.WideKeyElems
import Derived.Laws.IdiomMaps
import Derived.Maps.Keyed
import Derived.Maps.Own
import Derived.StringKeys

namespace Go.Proofs.Ytiimanoloedbeaa
open Go.RowKit Go.BigFrame
set_option linter.unusedSimpArgs false
set_option linter.unusedVariables false
set_option maxRecDepth 100000
set_option maxHeartbeats 4000000 in
theorem vgood_any (v : VA) (obj : Int) (ho : I64 obj) (w : World) (h : v.R w) (hS : v.Sm) : Calls Try.prog 45 #[.agg v.cs, .int .i64 obj] w fun e w' => e = .returned (.bool (viewB v.size obj v.mk' v.lk)) ∧ Below w.heap.size w w' := by
  have B0 := Lib.hid (below_alloc w (.cells v.cs 82))
  have HK := Lib.hid (Blk.new w 82 v.cs)
  have HM := Lib.hid (marked_any v obj ho (w.alloc (.cells v.cs 82)) (h.since B0.out) hS)
  have HL : Hid (∀ w1, Below w.heap.size w w1 → Calls Try.prog 94 #[.agg v.cs] w1 fun e w' => e = .returned (.bool (v.lk.B v.size)) ∧ Below w1.heap.size w1 w') := Lib.hid fun w1 hb => linked_any v w1 (h.since hb) hS
  unfold viewB
  obtain ⟨bm, hbm⟩ : ∃ bm, bm = v.mk'.B (objsOf v.size obj) := ⟨_, rfl⟩
  obtain ⟨bl, hbl⟩ : ∃ bl, bl = v.lk.B v.size := ⟨_, rfl⟩
  rw [← hbm] at HM ⊢
  rw [← hbl] at HL ⊢
  clear h hS hbm hbl
  unfold VA.cs at *
  by_cases c1 : 0 ≤ v.size
  · have d1 : decide (0 ≤ v.size) = true := decide_eq_true c1
    by_cases c2 : v.size ≤ 4096
    · have d2 : decide (v.size ≤ 4096) = true := decide_eq_true c2
      rw [d1, d2, Bool.true_and, Bool.true_and]
      go_enter Try.func45, Try.ntmps45
      go_wp2_with fail
      refine HM.out.mono ?_
      rintro e w1 ⟨rfl, b1⟩
      have k := HK.out.of (b1.block _ HK.out.lt)
      have k0 : w1.cell? ⟨w.heap.size, 0, none⟩ = some (.int .i64 v.size) := k.cell 0
      have k1 : w1.cell? ⟨w.heap.size, 1, none⟩ = some (.bool v.on) := k.cell 1
      have k2 : w1.cell? ⟨w.heap.size, 2, none⟩ = some (.bool v.good) := k.cell 2
      have k3 : w1.cell? ⟨w.heap.size, 3, none⟩ = some (.slice v.M v.row.length v.cm) := k.cell 3
      have k4 : w1.cell? ⟨w.heap.size, 4, none⟩ = some (.string (strOf v.par)) := k.cell 4
      have k5 : w1.cell? ⟨w.heap.size, 5, none⟩ = some (.int .i64 v.ps) := k.cell 5
      have k6 : w1.cell? ⟨w.heap.size, 6, none⟩ = some (.int .i64 v.ov) := k.cell 6
      have HB : Hid (Below w.heap.size w w1) := Lib.hid (B0.out.trans (b1.mono B0.out.size))
      clear b1 k HM B0 HK
      cases bm with
      | false =>
        go_wp2
        go_ret
        exact ⟨rfl, HB.out⟩
      | true =>
        go_wp2_with fail
        refine (HL.out _ HB.out).mono ?_
        rintro e w2 ⟨rfl, b2⟩
        go_wp2
        go_ret
        exact ⟨by cases bl <;> rfl, HB.out.trans (b2.mono HB.out.size)⟩
    · have d2 : decide (v.size ≤ 4096) = false := decide_eq_false c2
      rw [d1, d2]
      go_enter Try.func45, Try.ntmps45
      go_wp2
      go_ret
      exact ⟨rfl, B0.out⟩
  · have d1 : decide (0 ≤ v.size) = false := decide_eq_false c1
    rw [d1]
    go_enter Try.func45, Try.ntmps45
    go_wp2
    go_ret
    exact ⟨rfl, B0.out⟩
theorem less_total : ∀ x y : List UInt8, (Op.bytesLess x y || x == y) = !Op.bytesLess y x
  | [], [] => rfl
  | [], _ :: _ => rfl
  | _ :: _, [] => rfl
  | a :: x, b :: y => by
    have ih := less_total x y
    simp only [Op.bytesLess]
    rcases Nat.lt_trichotomy a.toNat b.toNat with h | h | h
    · have h1 : a < b := h
      have h2 : ¬ b < a := fun h' => by have := UInt8.lt_iff_toNat_lt.1 h'; omega
      have h3 : (b == a) = false := by rw [beq_eq_false_iff_ne]; rintro rfl; omega
      simp [h1, h2, h3]
    · obtain rfl : a = b := UInt8.toNat_inj.1 h
      have h2 : ¬ a < a := fun h' => by have := UInt8.lt_iff_toNat_lt.1 h'; omega
      simp only [h2, decide_false, Bool.false_or, beq_self_eq_true, Bool.true_and]
      rw [← ih]
      simp
    · have h1 : b < a := h
      have h2 : ¬ a < b := fun h' => by have := UInt8.lt_iff_toNat_lt.1 h'; omega
      have h3 : (a == b) = false := by rw [beq_eq_false_iff_ne]; rintro rfl; omega
      simp [h1, h2, h3]
theorem le_lt_str (c l : List Nat) : (Op.bytesLess (strOf c).toList (strOf l).toList || (strOf c).toList == (strOf l).toList) = !ltS l c := less_total _ _
set_option maxHeartbeats 4000000 in
theorem chgood_any (s : SA) (w : World) (h : s.R w) (hS : s.Sm) : Calls Try.prog 96 #[.agg s.cells.toArray] w fun e w' => e = .returned (.bool s.v.chB) ∧ Below w.heap.size w w' := by
  have B0 := Lib.hid (below_alloc w (.cells s.cells.toArray 66))
  have HK := Lib.hid (Blk.new w 66 s.cells.toArray)
  have HCH := Lib.hid h.ch
  have HCL := Lib.hid hS.cl
  have hn := hS.ch
  have hv : s.v.chB = (upB [] s.ch && (s.prot || s.ch.isEmpty)) := rfl
  rw [hv]
  clear h hS hv
  unfold SA.cells at *
  go_enter Try.func96, Try.ntmps96
  go_upto_region 2 with (fail)
  have hempty : (Value.string { data := #[] }) = .string (strOf []) := rfl
  rw [hempty]
  clear hempty
  have k10' : (w.alloc (.cells s.cells.toArray 66)).cell? ⟨w.heap.size, 10, none⟩ = some (.slice s.C s.ch.length s.cc) := HK.out.cell 10
  unfold SA.cells at k10'
  generalize hw0 : w.alloc _ = w0 at *
  go_wp2
  go_loopw [3, 9] (fun lv i wr => ∃ (k : Nat) (last : List Nat), k ≤ s.ch.length ∧ i = .int .i64 k ∧ lv = .string (strOf last) ∧ upB [] s.ch = upB last (s.ch.drop k) ∧ Below w0.heap.size w0 wr) (fun _ i _ => s.ch.length - (intOf i).toNat)
  case atStart => exact ⟨0, [], by omega, rfl, rfl, by rw [List.drop_zero], Below.refl _ _⟩
  case round =>
    obtain ⟨k, last, hk, rfl, rfl, hup, hb⟩ := hrel
    have HB := Lib.hid (B0.out.trans (hb.mono B0.out.size))
    have KR := HK.out.of (hb.block _ HK.out.lt)
    have k5 : wr.cell? ⟨w.heap.size, 5, none⟩ = some (.bool s.prot) := KR.cell 5
    have k10 : wr.cell? ⟨w.heap.size, 10, none⟩ = some (.slice s.C s.ch.length s.cc) := KR.cell 10
    have HUP := Lib.hid hup
    have HB2 := Lib.hid hb
    have hwk : IntKind.i64.wrap ((k : Int) + 1) = (k : Int) + 1 := by rw [IntKind.wrap_i64]; omega
    clear hup hb KR
    by_cases hlt : k < s.ch.length
    · obtain ⟨ad, c, had, hck, hc2, hcell⟩ := (HCH.out.since HB.out).at_ hlt
      have hd : s.ch.drop k = c :: s.ch.drop (k + 1) := by
        rw [List.drop_eq_getElem_cons hlt]
        congr 1
        rw [List.getElem?_eq_getElem hlt] at hck
        injection hck
      have HN := Lib.hid (named_any c hc2 (HCL.out c (List.mem_of_getElem? hck)))
      rw [hd, upB] at HUP
      have hle := le_lt_str c last
      clear hd hck
      generalize s.C = sC at *
      subst had
      go_wp2_with fail
      refine (HN.out _).mono ?_
      rintro e w1 ⟨rfl, b1⟩
      cases hnm : namedB c with
      | false =>
        rw [hnm] at HUP
        go_wp2
        go_ret
        exact ⟨by rw [HUP.out]; rfl, HB.out.trans (b1.mono HB.out.size)⟩
      | true =>
        rw [hnm] at HUP
        cases hl : ltS last c with
        | false =>
          rw [hl] at HUP hle
          clear hl hnm
          go_wp2
          go_ret
          exact ⟨by rw [HUP.out]; rfl, HB.out.trans (b1.mono HB.out.size)⟩
        | true =>
          rw [hl] at HUP hle
          clear hl hnm
          go_wp2
          go_roundw
          case rel => exact ⟨k + 1, c, by omega, by go_num, rfl, by rw [HUP.out]; rfl, HB2.out.trans (b1.mono HB2.out.size)⟩
          case measure => simp [intOf]; omega
    · obtain rfl : k = s.ch.length := by omega
      have hu : upB [] s.ch = true := by rw [HUP.out, List.drop_length]; rfl
      have hln : ((s.ch.length : Int) == 0) = s.ch.isEmpty := by rw [Bool.eq_iff_iff, beq_iff_eq, List.isEmpty_iff, ← List.length_eq_zero_iff]; omega
      have HU := Lib.hid hu
      clear hu
      cases hp : s.prot with
      | false =>
        rw [hp] at k5
        go_wp2
        go_ret
        exact ⟨by rw [HU.out, hp]; rfl, HB.out⟩
      | true =>
        rw [hp] at k5
        go_wp2
        go_ret
        exact ⟨by rw [HU.out, hp]; rfl, HB.out⟩
end Go.Proofs.Ytiimanoloedbeaa

/-
  Where a snapshot stands. Conditions: the head reads as it is said to.
-/
namespace Go.Proofs.Ytiimanoloedbeaa
open Go.RowKit Go.BigFrame
set_option linter.unusedSimpArgs false
set_option linter.unusedVariables false
set_option maxRecDepth 100000
/-- where the first one stands; -1: nowhere -/
def idxI {α : Type} (p : α → Bool) : List α → Int
  | [] => -1
  | x :: r => if p x then 0 else if idxI p r < 0 then -1 else idxI p r + 1
theorem idx_skip {α : Type} (p : α → Bool) : ∀ (l : List α) (k : Nat), k ≤ l.length → (∀ (j : Nat) (x : α), j < k → l[j]? = some x → p x = false) → ∀ x, l[k]? = some x → p x = true → idxI p l = k
  | [], k, _, _, x, h, _ => by simp at h
  | y :: l, 0, _, _, x, h, hp => by
    simp at h
    subst h
    rw [idxI, if_pos hp]
    rfl
  | y :: l, k + 1, hk, hn, x, h, hp => by
    have h0 := hn 0 y (by omega) rfl
    have ih := idx_skip p l k (by simpa using hk) (fun j z hj hz => hn (j + 1) z (by omega) (by simpa using hz)) x (by simpa using h) hp
    rw [idxI, if_neg (by rw [h0]; simp), ih, if_neg (by omega)]
    push_cast
    rfl
theorem idx_none {α : Type} (p : α → Bool) : ∀ (l : List α), (∀ (j : Nat) (x : α), l[j]? = some x → p x = false) → idxI p l = -1
  | [], _ => rfl
  | y :: l, hn => by
    have h0 := hn 0 y rfl
    have ih := idx_none p l (fun j z hz => hn (j + 1) z (by simpa using hz))
    rw [idxI, if_neg (by rw [h0]; simp), ih, if_pos (by omega)]
theorem idx_any {α : Type} (p : α → Bool) (l : List α) : decide (0 ≤ idxI p l) = l.any p := by
  induction l with
  | nil => rfl
  | cons y l ih =>
    rw [idxI, List.any_cons]
    cases hp : p y with
    | true => rfl
    | false =>
      rw [if_neg (by simp), Bool.false_or, ← ih]
      split
      · rename_i h; rw [decide_eq_false (by omega), decide_eq_false (by omega)]
      · rename_i h; rw [decide_eq_true (by omega), decide_eq_true (by omega)]
theorem num1_any (s : SA) (n : Int) (g : Nat) (w : World) (hg : w.cell? ⟨g, 0, none⟩ = some (.int .i64 n)) :
    Calls Try.prog 83 #[.agg s.cells.toArray, .pointer (some ⟨g, 0, none⟩)] w fun e w' => e = .returned (.bool (s.num == n)) ∧ Below w.heap.size w w' := by
  have B0 := Lib.hid (below_alloc w (.cells s.cells.toArray 66))
  have hg2 := (B0.out.cell (World.block_lt_of_cell? w _ hg)).trans hg
  unfold SA.cells at *
  go_enter Try.func83, Try.ntmps83
  go_wp2
  go_ret
  exact ⟨rfl, B0.out⟩
theorem snap1_any (s : SA) (bs : List Nat) (g : Nat) (w : World) (hs : ∀ b ∈ s.name, b < 256) (hb : ∀ b ∈ bs, b < 256) (hg : w.cell? ⟨g, 0, none⟩ = some (.string (strOf bs))) :
    Calls Try.prog 150 #[.agg s.cells.toArray, .pointer (some ⟨g, 0, none⟩)] w fun e w' => e = .returned (.bool (decide (s.name = bs))) ∧ Below w.heap.size w w' := by
  have B0 := Lib.hid (below_alloc w (.cells s.cells.toArray 66))
  have hg2 := (B0.out.cell (World.block_lt_of_cell? w _ hg)).trans hg
  have he := str_eq hs hb
  unfold SA.cells at *
  cases hd : decide (s.name = bs) with
  | true =>
    rw [hd] at he
    go_enter Try.func150, Try.ntmps150
    go_wp2
    go_ret
    exact ⟨rfl, B0.out⟩
  | false =>
    rw [hd] at he
    go_enter Try.func150, Try.ntmps150
    go_wp2
    go_ret
    exact ⟨rfl, B0.out⟩
set_option maxHeartbeats 4000000 in
theorem index_num (g c : Nat) (u : Value) (p : SA → Bool) (l : List SA) (A : Option Addr) (w : World) (hl : l.length ≤ 1000000) (hr : Reads w w.heap.size 11 A l.length (l.flatMap SA.cells)) (hg : w.cell? ⟨g, 0, none⟩ = some u)
    (hf : ∀ s ∈ l, ∀ w1, w1.cell? ⟨g, 0, none⟩ = some u → Calls Try.prog 83 #[.agg s.cells.toArray, .pointer (some ⟨g, 0, none⟩)] w1 fun e w' => e = .returned (.bool (p s)) ∧ Below w1.heap.size w1 w') :
    Calls Try.prog 82 #[.slice A l.length c, .func (.func 83) #[] #[.pointer (some ⟨g, 0, none⟩)]] w fun e w' => e = .returned (.int .i64 (idxI p l)) ∧ Below w.heap.size w w' := by
  have H := Lib.hid hr
  have HG := Lib.hid hg
  have HF := Lib.hid hf
  clear hr hg hf
  go_enter Try.func82, Try.ntmps82
  go_wp2
  go_loopw [5, 8] (fun _ i wr => ∃ k : Nat, k ≤ l.length ∧ i = .int .i64 k ∧ Below w.heap.size w wr ∧ ∀ j s, j < k → l[j]? = some s → p s = false) (fun _ i _ => l.length - (intOf i).toNat)
  case atStart => exact ⟨0, by omega, rfl, Below.refl _ _, fun j s h => by omega⟩
  case round =>
    obtain ⟨k, hk, rfl, hb, hall⟩ := hrel
    have HA := Lib.hid hall
    have HB := Lib.hid hb
    have hwk : IntKind.i64.wrap ((k : Int) + 1) = (k : Int) + 1 := by rw [IntKind.wrap_i64]; omega
    clear hall hb
    by_cases hlt : k < l.length
    · obtain ⟨s, hs⟩ : ∃ s, l[k]? = some s := ⟨_, List.getElem?_eq_getElem hlt⟩
      obtain ⟨ad, had, -, hc⟩ := snap_at SA.cells_len (H.out.since HB.out) hs
      have HS := Lib.hid hs
      have HC := Lib.hid (HF.out s (List.mem_of_getElem? hs) wr ((HB.out.cell (World.block_lt_of_cell? w _ HG.out)).trans HG.out))
      subst had
      clear hs
      go_wp2_with (have _h := hc; refine wpList_loadp rfl 66 (.tmp 14) rfl _ s.cells _ rfl hc Try.underlying66 rfl (by kernel_rfl) ?_; clear _h hc)
      refine HC.out.mono ?_
      rintro e w1 ⟨rfl, b1⟩
      have HB1 := Lib.hid (HB.out.trans (b1.mono HB.out.size))
      clear b1 HC
      cases hp : p s with
      | true =>
        have HI := Lib.hid (idx_skip p l k hk HA.out s HS.out hp)
        clear hp
        go_wp2
        go_ret
        exact ⟨by rw [HI.out]; rfl, HB1.out⟩
      | false =>
        have HP := Lib.hid hp
        clear hp
        go_wp2
        go_roundw
        case rel => exact ⟨k + 1, by omega, by go_num, HB1.out, fun j x hj hx => by
          rcases Nat.lt_succ_iff_lt_or_eq.1 hj with h | rfl
          · exact HA.out j x h hx
          · rw [HS.out] at hx; injection hx with hx; subst hx; exact HP.out⟩
        case measure => simp [intOf]; omega
    · obtain rfl : k = l.length := by omega
      have HI := Lib.hid (idx_none p l fun j x hx => HA.out j x (List.getElem?_eq_some_iff.1 hx).1 hx)
      go_wp2
      go_ret
      exact ⟨by rw [HI.out]; rfl, HB.out⟩
set_option maxHeartbeats 4000000 in
theorem index_str (g c : Nat) (u : Value) (p : SA → Bool) (l : List SA) (A : Option Addr) (w : World) (hl : l.length ≤ 1000000) (hr : Reads w w.heap.size 11 A l.length (l.flatMap SA.cells)) (hg : w.cell? ⟨g, 0, none⟩ = some u)
    (hf : ∀ s ∈ l, ∀ w1, w1.cell? ⟨g, 0, none⟩ = some u → Calls Try.prog 150 #[.agg s.cells.toArray, .pointer (some ⟨g, 0, none⟩)] w1 fun e w' => e = .returned (.bool (p s)) ∧ Below w1.heap.size w1 w') :
    Calls Try.prog 82 #[.slice A l.length c, .func (.func 150) #[] #[.pointer (some ⟨g, 0, none⟩)]] w fun e w' => e = .returned (.int .i64 (idxI p l)) ∧ Below w.heap.size w w' := by
  have H := Lib.hid hr
  have HG := Lib.hid hg
  have HF := Lib.hid hf
  clear hr hg hf
  go_enter Try.func82, Try.ntmps82
  go_wp2
  go_loopw [5, 8] (fun _ i wr => ∃ k : Nat, k ≤ l.length ∧ i = .int .i64 k ∧ Below w.heap.size w wr ∧ ∀ j s, j < k → l[j]? = some s → p s = false) (fun _ i _ => l.length - (intOf i).toNat)
  case atStart => exact ⟨0, by omega, rfl, Below.refl _ _, fun j s h => by omega⟩
  case round =>
    obtain ⟨k, hk, rfl, hb, hall⟩ := hrel
    have HA := Lib.hid hall
    have HB := Lib.hid hb
    have hwk : IntKind.i64.wrap ((k : Int) + 1) = (k : Int) + 1 := by rw [IntKind.wrap_i64]; omega
    clear hall hb
    by_cases hlt : k < l.length
    · obtain ⟨s, hs⟩ : ∃ s, l[k]? = some s := ⟨_, List.getElem?_eq_getElem hlt⟩
      obtain ⟨ad, had, -, hc⟩ := snap_at SA.cells_len (H.out.since HB.out) hs
      have HS := Lib.hid hs
      have HC := Lib.hid (HF.out s (List.mem_of_getElem? hs) wr ((HB.out.cell (World.block_lt_of_cell? w _ HG.out)).trans HG.out))
      subst had
      clear hs
      go_wp2_with (have _h := hc; refine wpList_loadp rfl 66 (.tmp 14) rfl _ s.cells _ rfl hc Try.underlying66 rfl (by kernel_rfl) ?_; clear _h hc)
      refine HC.out.mono ?_
      rintro e w1 ⟨rfl, b1⟩
      have HB1 := Lib.hid (HB.out.trans (b1.mono HB.out.size))
      clear b1 HC
      cases hp : p s with
      | true =>
        have HI := Lib.hid (idx_skip p l k hk HA.out s HS.out hp)
        clear hp
        go_wp2
        go_ret
        exact ⟨by rw [HI.out]; rfl, HB1.out⟩
      | false =>
        have HP := Lib.hid hp
        clear hp
        go_wp2
        go_roundw
        case rel => exact ⟨k + 1, by omega, by go_num, HB1.out, fun j x hj hx => by
          rcases Nat.lt_succ_iff_lt_or_eq.1 hj with h | rfl
          · exact HA.out j x h hx
          · rw [HS.out] at hx; injection hx with hx; subst hx; exact HP.out⟩
        case measure => simp [intOf]; omega
    · obtain rfl : k = l.length := by omega
      have HI := Lib.hid (idx_none p l fun j x hx => HA.out j x (List.getElem?_eq_some_iff.1 hx).1 hx)
      go_wp2
      go_ret
      exact ⟨by rw [HI.out]; rfl, HB.out⟩
theorem number_any (h : HA) (n : Int) (w : World) (hR : h.R SA.cells w) (hl : h.sn.length ≤ 1000000) :
    Calls Try.prog 30 #[.agg h.cs, .int .i64 n] w fun e w' => e = .returned (.int .i64 (idxI (fun s : SA => s.num == n) h.sn)) ∧ Below w.heap.size w w' := by
  have B0 := Lib.hid ((below_alloc w (.cells h.cs 36)).alloc (by simp) (.cells #[.int .i64 n] 3))
  have hrow := (hR.row.since B0.out).more B0.out.size
  have HI := Lib.hid (index_num (w.heap.size + 1) h.cs' (.int .i64 n) (fun s => s.num == n) h.sn h.S _ hl hrow ((blk_two w (.cells h.cs 36) 3 #[.int .i64 n]).cell 0) (fun s hs w1 hg => num1_any s n _ w1 hg))
  clear hR hrow
  unfold HA.cs at *
  go_enter Try.func30, Try.ntmps30
  go_wp2_with fail
  refine HI.out.mono ?_
  rintro e w1 ⟨rfl, b1⟩
  go_wp2
  go_ret
  exact ⟨rfl, B0.out.trans (b1.mono B0.out.size)⟩
theorem find_any (h : HA) (bs : List Nat) (hb : ∀ b ∈ bs, b < 256) (w : World) (hR : h.R SA.cells w) (hl : h.sn.length ≤ 1000000) :
    Calls Try.prog 114 #[.agg h.cs, .string (strOf bs)] w fun e w' => e = .returned (.int .i64 (idxI (fun s : SA => decide (s.name = bs)) h.sn)) ∧ Below w.heap.size w w' := by
  have B0 := Lib.hid ((below_alloc w (.cells h.cs 36)).alloc (by simp) (.cells #[.string (strOf bs)] 9))
  have hrow := (hR.row.since B0.out).more B0.out.size
  have HI := Lib.hid (index_str (w.heap.size + 1) h.cs' (.string (strOf bs)) (fun s => decide (s.name = bs)) h.sn h.S _ hl hrow ((blk_two w (.cells h.cs 36) 9 #[.string (strOf bs)]).cell 0) (fun s hs w1 hg => snap1_any s bs _ w1 (hR.sn s hs).name hb hg))
  clear hR hrow
  unfold HA.cs at *
  go_enter Try.func114, Try.ntmps114
  go_wp2_with fail
  refine HI.out.mono ?_
  rintro e w1 ⟨rfl, b1⟩
  go_wp2
  go_ret
  exact ⟨rfl, B0.out.trans (b1.mono B0.out.size)⟩
theorem any_map {α β : Type} (f : α → β) (p : β → Bool) (l : List α) : (l.map f).any p = l.any fun x => p (f x) := by rw [List.any_map]; rfl
set_option maxHeartbeats 4000000 in
theorem intent_any (h : HA) (w : World) (hR : h.R SA.cells w) (hl : h.sn.length ≤ 1000000) :
    Calls Try.prog 47 #[.agg h.cs] w fun e w' => e = .returned (.bool h.v.itB) ∧ Below w.heap.size w w' := by
  have B0 := Lib.hid (below_alloc w (.cells h.cs 36))
  have HN := Lib.hid (number_any h h.tg _ (hR.since B0.out) hl)
  have hv : h.v.itB = (if h.it = 1 then decide (0 ≤ h.tg) && decide (h.tg ≤ 4096) else if h.it = 2 ∨ h.it = 3 then h.sn.any (fun s => s.num == h.tg) else if h.it = 0 ∨ h.it = 4 ∨ h.it = 5 then decide (h.tg = 0) else false) := by
    have := any_map SA.v (fun s : SnV => s.num == h.tg) h.sn
    have e : (h.sn.any fun s => s.num == h.tg) = h.sn.any fun x => x.v.num == h.tg := rfl
    rw [e, ← this]
    rfl
  have hq : (h.tg == 0) = decide (h.tg = 0) := by rw [Bool.eq_iff_iff, beq_iff_eq, decide_eq_true_iff]
  rw [hv]
  clear hv hR
  unfold HA.cs at *
  by_cases a0 : h.it = 0
  · have e0 : (h.it == 0) = true := by simpa using a0
    rw [if_neg (by omega), if_neg (by omega), if_pos (by omega), ← hq]
    clear hq a0
    go_enter Try.func47, Try.ntmps47
    go_wp2
    go_ret
    exact ⟨rfl, B0.out⟩
  have e0 : (h.it == 0) = false := by simpa using a0
  by_cases a4 : h.it = 4
  · have e4 : (h.it == 4) = true := by simpa using a4
    rw [if_neg (by omega), if_neg (by omega), if_pos (by omega), ← hq]
    clear hq a4 a0
    go_enter Try.func47, Try.ntmps47
    go_wp2
    go_ret
    exact ⟨rfl, B0.out⟩
  have e4 : (h.it == 4) = false := by simpa using a4
  by_cases a5 : h.it = 5
  · have e5 : (h.it == 5) = true := by simpa using a5
    rw [if_neg (by omega), if_neg (by omega), if_pos (by omega), ← hq]
    clear hq a5 a4 a0
    go_enter Try.func47, Try.ntmps47
    go_wp2
    go_ret
    exact ⟨rfl, B0.out⟩
  have e5 : (h.it == 5) = false := by simpa using a5
  by_cases a1 : h.it = 1
  · have e1 : (h.it == 1) = true := by simpa using a1
    rw [if_pos a1]
    clear hq a5 a4 a0 a1
    by_cases c1 : 0 ≤ h.tg
    · have d1 : decide (0 ≤ h.tg) = true := decide_eq_true c1
      go_enter Try.func47, Try.ntmps47
      go_wp2
      go_ret
      exact ⟨by first | rfl | (rw [d1]; rfl), B0.out⟩
    · have d1 : decide (0 ≤ h.tg) = false := decide_eq_false c1
      go_enter Try.func47, Try.ntmps47
      go_wp2
      go_ret
      exact ⟨by first | rfl | (rw [d1]; rfl), B0.out⟩
  have e1 : (h.it == 1) = false := by simpa using a1
  by_cases a2 : h.it = 2
  · have e2 : (h.it == 2) = true := by simpa using a2
    rw [if_neg (by omega), if_pos (by omega), ← idx_any]
    clear hq a5 a4 a0 a1 a2
    generalize idxI (fun s : SA => s.num == h.tg) h.sn = ix at *
    go_enter Try.func47, Try.ntmps47
    go_wp2_with fail
    refine HN.out.mono ?_
    rintro e w1 ⟨rfl, b1⟩
    go_wp2
    go_ret
    exact ⟨rfl, B0.out.trans (b1.mono B0.out.size)⟩
  have e2 : (h.it == 2) = false := by simpa using a2
  by_cases a3 : h.it = 3
  · have e3 : (h.it == 3) = true := by simpa using a3
    rw [if_neg (by omega), if_pos (by omega), ← idx_any]
    clear hq a5 a4 a0 a1 a2 a3
    generalize idxI (fun s : SA => s.num == h.tg) h.sn = ix at *
    go_enter Try.func47, Try.ntmps47
    go_wp2_with fail
    refine HN.out.mono ?_
    rintro e w1 ⟨rfl, b1⟩
    go_wp2
    go_ret
    exact ⟨rfl, B0.out.trans (b1.mono B0.out.size)⟩
  have e3 : (h.it == 3) = false := by simpa using a3
  rw [if_neg (by omega), if_neg (by omega), if_neg (by omega)]
  clear hq a5 a4 a0 a1 a2 a3
  go_enter Try.func47, Try.ntmps47
  go_wp2
  go_ret
  exact ⟨rfl, B0.out⟩
end Go.Proofs.Ytiimanoloedbeaa

/-
  A map whose keys are strings, as a row of pairs that rises by its keys. No condition; nothing of the program is named.
-/
namespace Go.Proofs.Ytiimanoloedbeaa
open Go.RowKit Go.ChangeMaps Go.WideElems Go.MapKept
set_option linter.unusedSimpArgs false
set_option linter.unusedVariables false
abbrev Key := List UInt8
abbrev KV := List (Key × Value)
def heldR (v : Value) : Option (DataW Value × List MemPlace) := some (.held v, [])
def encKV (p : Key × Value) : Lit × DataW Value := (.string p.1, .held p.2)
def keyV (k : Key) : Value := .string ⟨k.toArray⟩
def ains (x : Key × Value) : KV → KV
  | [] => [x]
  | y :: r => if bytesBefore x.1 y.1 then x :: y :: r else y :: ains x r
def adel (k : Key) (l : KV) : KV := l.filter fun p => !(p.1 == k)
def aput (k : Key) (v : Value) (l : KV) : KV := ains (k, v) (adel k l)
theorem ains_enc (x : Key × Value) : ∀ l : KV, (ains x l).map encKV = DataW.insert (encKV x) (l.map encKV)
  | [] => rfl
  | y :: r => by
    have ih := ains_enc x r
    simp only [ains, List.map_cons, DataW.insert]
    have e : (encKV x).1.before (encKV y).1 = bytesBefore x.1 y.1 := rfl
    rw [e]
    split
    · rfl
    · rw [List.map_cons, ih]
theorem adel_enc (k : Key) (l : KV) : (adel k l).map encKV = delKey (.string k) (l.map encKV) := by
  unfold adel delKey
  rw [List.filter_map]
  rfl
theorem aput_enc (k : Key) (v : Value) (l : KV) : (aput k v l).map encKV = putKey (.string k) (.held v) (l.map encKV) := by
  unfold aput
  rw [ains_enc, adel_enc]
  rfl
/-- block b is a map that holds just these pairs -/
def SMap (P : Program) (kt : TypeId) (w : World) (b : Nat) (l : KV) : Prop := ∃ es clock, w.heap[b]? = some (.map es clock) ∧ Go.WideElems.Fit P kt heldR es clock ∧ (es.toList.map (rg P kt heldR)).foldr DataW.insert [] = l.map encKV
section
variable {P : Program} {kt t et : TypeId} {w w' : World} {b : Nat} {l : KV}
theorem SMap.of (h : SMap P kt w b l) (e : w'.heap[b]? = w.heap[b]?) : SMap P kt w' b l := by
  obtain ⟨es, c, h1, h2⟩ := h
  exact ⟨es, c, e.trans h1, h2⟩
theorem SMap.lt (h : SMap P kt w b l) : b < w.heap.size := by
  obtain ⟨es, c, h1, _⟩ := h
  exact (Array.getElem?_eq_some_iff.1 h1).1
theorem SMap.new (w : World) : SMap P kt (w.alloc (.map #[] 0)) w.heap.size [] := ⟨#[], 0, heap_alloc_new w _, ⟨by simp, stamped_empty 0, by simp⟩, rfl⟩
theorem SMap.size (h : SMap P kt w b l) : ∃ es clock, w.heap[b]? = some (.map es clock) ∧ es.size = l.length := by
  obtain ⟨es, c, h1, h2, h3⟩ := h
  refine ⟨es, c, h1, ?_⟩
  have := congrArg List.length h3
  rw [length_sorted] at this
  simpa using this
theorem SMap.owns (h : SMap P kt w b l) : w.ownsMap P kt heldR b l.length (.map (l.map encKV)) := by
  obtain ⟨es, c, h1, h2, h3⟩ := h
  refine ⟨es, c, h1, h2, ?_, by rw [h3]⟩
  have := congrArg List.length h3
  rw [length_sorted] at this
  simp at this
  omega
theorem key_of (hk : P.underlying kt = some .string) (k : Key) (hs : k.length ≤ maxLen) : keyOf P kt (keyV k) = some (.string k) := by
  simp [keyOf, mapKey, hk, keyV, hs]
  exact hs
theorem grown_setBlock {w : World} {b : Nat} {es : Array MapEntry} {c : Nat} {o' : Obj} (h : w.heap[b]? = some (.map es c)) : w.grownBy (setBlock w b o') (some b) ∧ (setBlock w b o').heap.size = w.heap.size :=
  ⟨⟨rfl, rfl, rfl, by simp [setBlock], fun i _ hi => heap_setBlock_other h _ (fun e => hi (by rw [e]))⟩, by simp [setBlock]⟩
theorem run_update_smap (hk : P.underlying kt = some .string) (ht : P.underlying t = some (.map kt et)) (h : SMap P kt w b l) (k : Key) (hs : k.length ≤ maxLen) (hroom : l.length < maxLen) (v : Value) :
    ∃ w', (Instr.mapUpdate t (.map (some b)) (keyV k) v).run P w = .ok () w' ∧ SMap P kt w' b (aput k v l) ∧ w.grownBy w' (some b) ∧ w'.heap.size = w.heap.size := by
  obtain ⟨es0, c0, h10, hsz⟩ := h.size
  obtain ⟨es, c, h1, h2, h3⟩ := h
  rw [h1] at h10
  injection h10 with h10
  injection h10 with h10 _
  subst h10
  obtain ⟨es', c', hr, hf, hl, _⟩ := fit_update (R' := heldR) (WideMaps.string_law hk) ht h1 h2 (by omega) (fun _ _ _ h => h) (key_of hk k hs) (val := v) (yv := (.held v, [])) rfl
  obtain ⟨hg, hz⟩ := grown_setBlock (o' := .map es' c') h1
  refine ⟨_, hr, ⟨es', c', heap_setBlock_same h1 _, hf, ?_⟩, hg, hz⟩
  rw [hl, h3, aput_enc]
end
end Go.Proofs.Ytiimanoloedbeaa

/-
  A map's keys: as many as there are names, if none stands twice. No condition.
-/
namespace Go.Proofs.Ytiimanoloedbeaa
open Go.RowKit Go.BigFrame
set_option linter.unusedSimpArgs false
set_option linter.unusedVariables false
def keyB (bs : List Nat) : Key := bs.map UInt8.ofNat
theorem keyB_val (bs : List Nat) : keyV (keyB bs) = .string (strOf bs) := by
  unfold keyV keyB
  congr 1
  have := strOf_data bs
  cases h : strOf bs with
  | mk d => rw [h] at this; simp at this; rw [← this]
theorem keyB_inj {a b : List Nat} (ha : ∀ x ∈ a, x < 256) (hb : ∀ x ∈ b, x < 256) (h : keyB a = keyB b) : a = b := by
  apply strOf_inj ha hb
  have := keyB_val a
  rw [h, keyB_val] at this
  injection this with this
  exact this.symm
theorem keyB_len (bs : List Nat) : (keyB bs).length = bs.length := by simp [keyB]
theorem ains_mem (x y : Key × Value) : ∀ l : KV, y ∈ ains x l ↔ y = x ∨ y ∈ l
  | [] => by simp [ains]
  | z :: r => by
    rw [ains]
    split
    · simp
    · rw [List.mem_cons, ains_mem x y r, List.mem_cons]
      constructor
      · rintro (h | h | h)
        · exact .inr (.inl h)
        · exact .inl h
        · exact .inr (.inr h)
      · rintro (h | h | h)
        · exact .inr (.inl h)
        · exact .inl h
        · exact .inr (.inr h)
theorem ains_len (x : Key × Value) : ∀ l : KV, (ains x l).length = l.length + 1
  | [] => rfl
  | z :: r => by
    rw [ains]
    split
    · simp
    · rw [List.length_cons, ains_len x r, List.length_cons]
/-- the map's keys are just these -/
structure Keys (l : KV) (ks : List Key) : Prop where
  mem : ∀ k, k ∈ l.map Prod.fst ↔ k ∈ ks
  le : l.length ≤ ks.length
  eq : l.length = ks.length ↔ ks.Nodup
theorem Keys.nil : Keys [] [] := ⟨fun k => by simp, Nat.le_refl _, by simp⟩
theorem Keys.put {l : KV} {ks : List Key} (h : Keys l ks) (k : Key) (v : Value) : Keys (aput k v l) (ks ++ [k]) := by
  have hm : ∀ j, j ∈ (aput k v l).map Prod.fst ↔ j = k ∨ j ∈ l.map Prod.fst := by
    intro j
    unfold aput
    simp only [List.mem_map, ains_mem, adel, List.mem_filter]
    constructor
    · rintro ⟨p, rfl | ⟨hp, hk⟩, rfl⟩
      · exact .inl rfl
      · exact .inr ⟨p, hp, rfl⟩
    · rintro (rfl | ⟨p, hp, rfl⟩)
      · exact ⟨_, .inl rfl, rfl⟩
      · by_cases e : p.1 = k
        · exact ⟨(k, v), .inl rfl, e.symm⟩
        · exact ⟨p, .inr ⟨hp, by simpa using e⟩, rfl⟩
  have hlen : (aput k v l).length = (adel k l).length + 1 := by unfold aput; rw [ains_len]
  have hnd : (ks ++ [k]).Nodup ↔ ks.Nodup ∧ k ∉ ks := by
    rw [List.nodup_append]
    constructor
    · rintro ⟨h1, _, h3⟩
      exact ⟨h1, fun hk => h3 k hk k (by simp) rfl⟩
    · rintro ⟨h1, h2⟩
      exact ⟨h1, by simp, fun a ha b hb => by simp at hb; subst hb; rintro rfl; exact h2 ha⟩
  by_cases hk : k ∈ ks
  · have hlt : (adel k l).length < l.length := by
      have := (h.mem k).2 hk
      obtain ⟨p, hp, e⟩ := List.mem_map.1 this
      unfold adel
      have hle := List.length_filter_le (fun p : Key × Value => !(p.1 == k)) l
      rcases Nat.lt_or_eq_of_le hle with h' | h'
      · exact h'
      · have := (List.length_filter_eq_length_iff.1 h') p hp
        simp [e] at this
    have := h.le
    refine ⟨fun j => by rw [hm, h.mem]; simp; constructor <;> (rintro (a | a) <;> simp [a]), by rw [hlen, List.length_append, List.length_singleton]; omega, ?_⟩
    rw [hnd, hlen, List.length_append, List.length_singleton]
    exact ⟨fun e => by omega, fun e => absurd hk e.2⟩
  · have he : adel k l = l := by
      unfold adel
      rw [List.filter_eq_self]
      intro p hp
      have : p.1 ∈ l.map Prod.fst := List.mem_map.2 ⟨p, hp, rfl⟩
      rw [h.mem] at this
      simp
      rintro rfl
      exact hk this
    rw [he] at hlen
    have := h.le
    refine ⟨fun j => by rw [hm, h.mem]; simp; constructor <;> (rintro (a | a) <;> simp [a]), by rw [hlen, List.length_append, List.length_singleton]; omega, ?_⟩
    rw [hnd, hlen, List.length_append, List.length_singleton, ← h.eq]
    exact ⟨fun e => ⟨by omega, hk⟩, fun e => by omega⟩
theorem nodup_keys {l : List (List Nat)} (h : ∀ c ∈ l, ∀ b ∈ c, b < 256) : (l.map keyB).Nodup ↔ l.Nodup := by
  unfold List.Nodup
  rw [List.pairwise_map]
  constructor
  · intro hp
    exact hp.imp fun h e => h (by rw [e])
  · intro hp
    exact List.Pairwise.imp_of_mem (fun {a b} ha hb hne e => hne (keyB_inj (h a ha) (h b hb) e)) hp
end Go.Proofs.Ytiimanoloedbeaa
