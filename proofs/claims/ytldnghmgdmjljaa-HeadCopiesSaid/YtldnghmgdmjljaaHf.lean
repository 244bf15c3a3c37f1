/-
  Where a snapshot stands. Conditions: the head reads as it is said to.
-/
import Derived.Test.YtldnghmgdmjljaaHe
namespace Go.Proofs.Ytldnghmgdmjljaa
open Go.RowKit Go.BigFrame
set_option linter.unusedSimpArgs false
set_option linter.unusedVariables false
set_option maxRecDepth 100000
/-- where the first one stands; -1: nowhere -/
def idxI {α : Type} (p : α → Bool) : List α → Int
  | [] => -1
  | x :: r => if p x then 0 else if idxI p r < 0 then -1 else idxI p r + 1
theorem idx_skip {α : Type} (p : α → Bool) : ∀ (l : List α) (k : Nat), k ≤ l.length → (∀ (j : Nat) (x : α), j < k → l[j]? = some x → p x = false) → ∀ x, l[k]? = some x → p x = true → idxI p l = k
  | [], k, _, _, x, h, _ => by simp at h
  | y :: l, 0, _, _, x, h, hp => by
    simp at h
    subst h
    rw [idxI, if_pos hp]
    rfl
  | y :: l, k + 1, hk, hn, x, h, hp => by
    have h0 := hn 0 y (by omega) rfl
    have ih := idx_skip p l k (by simpa using hk) (fun j z hj hz => hn (j + 1) z (by omega) (by simpa using hz)) x (by simpa using h) hp
    rw [idxI, if_neg (by rw [h0]; simp), ih, if_neg (by omega)]
    push_cast
    rfl
theorem idx_none {α : Type} (p : α → Bool) : ∀ (l : List α), (∀ (j : Nat) (x : α), l[j]? = some x → p x = false) → idxI p l = -1
  | [], _ => rfl
  | y :: l, hn => by
    have h0 := hn 0 y rfl
    have ih := idx_none p l (fun j z hz => hn (j + 1) z (by simpa using hz))
    rw [idxI, if_neg (by rw [h0]; simp), ih, if_pos (by omega)]
theorem idx_any {α : Type} (p : α → Bool) (l : List α) : decide (0 ≤ idxI p l) = l.any p := by
  induction l with
  | nil => rfl
  | cons y l ih =>
    rw [idxI, List.any_cons]
    cases hp : p y with
    | true => rfl
    | false =>
      rw [if_neg (by simp), Bool.false_or, ← ih]
      split
      · rename_i h; rw [decide_eq_false (by omega), decide_eq_false (by omega)]
      · rename_i h; rw [decide_eq_true (by omega), decide_eq_true (by omega)]
theorem num1_any (s : SA) (n : Int) (g : Nat) (w : World) (hg : w.cell? ⟨g, 0, none⟩ = some (.int .i64 n)) :
    Calls Try.prog 67 #[.agg s.cells.toArray, .pointer (some ⟨g, 0, none⟩)] w fun e w' => e = .returned (.bool (s.num == n)) ∧ Below w.heap.size w w' := by
  have B0 := Lib.hid (below_alloc w (.cells s.cells.toArray 62))
  have hg2 := (B0.out.cell (World.block_lt_of_cell? w _ hg)).trans hg
  unfold SA.cells at *
  go_enter Try.func67, Try.ntmps67
  go_wp2
  go_ret
  exact ⟨rfl, B0.out⟩
theorem snap1_any (s : SA) (bs : List Nat) (g : Nat) (w : World) (hs : ∀ b ∈ s.name, b < 256) (hb : ∀ b ∈ bs, b < 256) (hg : w.cell? ⟨g, 0, none⟩ = some (.string (strOf bs))) :
    Calls Try.prog 68 #[.agg s.cells.toArray, .pointer (some ⟨g, 0, none⟩)] w fun e w' => e = .returned (.bool (decide (s.name = bs))) ∧ Below w.heap.size w w' := by
  have B0 := Lib.hid (below_alloc w (.cells s.cells.toArray 62))
  have hg2 := (B0.out.cell (World.block_lt_of_cell? w _ hg)).trans hg
  have he := str_eq hs hb
  unfold SA.cells at *
  cases hd : decide (s.name = bs) with
  | true =>
    rw [hd] at he
    go_enter Try.func68, Try.ntmps68
    go_wp2
    go_ret
    exact ⟨rfl, B0.out⟩
  | false =>
    rw [hd] at he
    go_enter Try.func68, Try.ntmps68
    go_wp2
    go_ret
    exact ⟨rfl, B0.out⟩
set_option maxHeartbeats 4000000 in
theorem index_num (g c : Nat) (u : Value) (p : SA → Bool) (l : List SA) (A : Option Addr) (w : World) (hl : l.length ≤ 1000000) (hr : Reads w w.heap.size 11 A l.length (l.flatMap SA.cells)) (hg : w.cell? ⟨g, 0, none⟩ = some u)
    (hf : ∀ s ∈ l, ∀ w1, w1.cell? ⟨g, 0, none⟩ = some u → Calls Try.prog 67 #[.agg s.cells.toArray, .pointer (some ⟨g, 0, none⟩)] w1 fun e w' => e = .returned (.bool (p s)) ∧ Below w1.heap.size w1 w') :
    Calls Try.prog 66 #[.slice A l.length c, .func (.func 67) #[] #[.pointer (some ⟨g, 0, none⟩)]] w fun e w' => e = .returned (.int .i64 (idxI p l)) ∧ Below w.heap.size w w' := by
  have H := Lib.hid hr
  have HG := Lib.hid hg
  have HF := Lib.hid hf
  clear hr hg hf
  go_enter Try.func66, Try.ntmps66
  go_wp2
  go_loopw [5, 8] (fun _ i wr => ∃ k : Nat, k ≤ l.length ∧ i = .int .i64 k ∧ Below w.heap.size w wr ∧ ∀ j s, j < k → l[j]? = some s → p s = false) (fun _ i _ => l.length - (intOf i).toNat)
  case atStart => exact ⟨0, by omega, rfl, Below.refl _ _, fun j s h => by omega⟩
  case round =>
    obtain ⟨k, hk, rfl, hb, hall⟩ := hrel
    have HA := Lib.hid hall
    have HB := Lib.hid hb
    have hwk : IntKind.i64.wrap ((k : Int) + 1) = (k : Int) + 1 := by rw [IntKind.wrap_i64]; omega
    clear hall hb
    by_cases hlt : k < l.length
    · obtain ⟨s, hs⟩ : ∃ s, l[k]? = some s := ⟨_, List.getElem?_eq_getElem hlt⟩
      obtain ⟨ad, had, -, hc⟩ := snap_at SA.cells_len (H.out.since HB.out) hs
      have HS := Lib.hid hs
      have HC := Lib.hid (HF.out s (List.mem_of_getElem? hs) wr ((HB.out.cell (World.block_lt_of_cell? w _ HG.out)).trans HG.out))
      subst had
      clear hs
      go_wp2_with (have _h := hc; refine wpList_loadp rfl 62 (.tmp 14) rfl _ s.cells _ rfl hc Try.underlying62 rfl (by kernel_rfl) ?_; clear _h hc)
      refine HC.out.mono ?_
      rintro e w1 ⟨rfl, b1⟩
      have HB1 := Lib.hid (HB.out.trans (b1.mono HB.out.size))
      clear b1 HC
      cases hp : p s with
      | true =>
        have HI := Lib.hid (idx_skip p l k hk HA.out s HS.out hp)
        clear hp
        go_wp2
        go_ret
        exact ⟨by rw [HI.out]; rfl, HB1.out⟩
      | false =>
        have HP := Lib.hid hp
        clear hp
        go_wp2
        go_roundw
        case rel => exact ⟨k + 1, by omega, by go_num, HB1.out, fun j x hj hx => by
          rcases Nat.lt_succ_iff_lt_or_eq.1 hj with h | rfl
          · exact HA.out j x h hx
          · rw [HS.out] at hx; injection hx with hx; subst hx; exact HP.out⟩
        case measure => simp [intOf]; omega
    · obtain rfl : k = l.length := by omega
      have HI := Lib.hid (idx_none p l fun j x hx => HA.out j x (List.getElem?_eq_some_iff.1 hx).1 hx)
      go_wp2
      go_ret
      exact ⟨by rw [HI.out]; rfl, HB.out⟩
set_option maxHeartbeats 4000000 in
theorem index_str (g c : Nat) (u : Value) (p : SA → Bool) (l : List SA) (A : Option Addr) (w : World) (hl : l.length ≤ 1000000) (hr : Reads w w.heap.size 11 A l.length (l.flatMap SA.cells)) (hg : w.cell? ⟨g, 0, none⟩ = some u)
    (hf : ∀ s ∈ l, ∀ w1, w1.cell? ⟨g, 0, none⟩ = some u → Calls Try.prog 68 #[.agg s.cells.toArray, .pointer (some ⟨g, 0, none⟩)] w1 fun e w' => e = .returned (.bool (p s)) ∧ Below w1.heap.size w1 w') :
    Calls Try.prog 66 #[.slice A l.length c, .func (.func 68) #[] #[.pointer (some ⟨g, 0, none⟩)]] w fun e w' => e = .returned (.int .i64 (idxI p l)) ∧ Below w.heap.size w w' := by
  have H := Lib.hid hr
  have HG := Lib.hid hg
  have HF := Lib.hid hf
  clear hr hg hf
  go_enter Try.func66, Try.ntmps66
  go_wp2
  go_loopw [5, 8] (fun _ i wr => ∃ k : Nat, k ≤ l.length ∧ i = .int .i64 k ∧ Below w.heap.size w wr ∧ ∀ j s, j < k → l[j]? = some s → p s = false) (fun _ i _ => l.length - (intOf i).toNat)
  case atStart => exact ⟨0, by omega, rfl, Below.refl _ _, fun j s h => by omega⟩
  case round =>
    obtain ⟨k, hk, rfl, hb, hall⟩ := hrel
    have HA := Lib.hid hall
    have HB := Lib.hid hb
    have hwk : IntKind.i64.wrap ((k : Int) + 1) = (k : Int) + 1 := by rw [IntKind.wrap_i64]; omega
    clear hall hb
    by_cases hlt : k < l.length
    · obtain ⟨s, hs⟩ : ∃ s, l[k]? = some s := ⟨_, List.getElem?_eq_getElem hlt⟩
      obtain ⟨ad, had, -, hc⟩ := snap_at SA.cells_len (H.out.since HB.out) hs
      have HS := Lib.hid hs
      have HC := Lib.hid (HF.out s (List.mem_of_getElem? hs) wr ((HB.out.cell (World.block_lt_of_cell? w _ HG.out)).trans HG.out))
      subst had
      clear hs
      go_wp2_with (have _h := hc; refine wpList_loadp rfl 62 (.tmp 14) rfl _ s.cells _ rfl hc Try.underlying62 rfl (by kernel_rfl) ?_; clear _h hc)
      refine HC.out.mono ?_
      rintro e w1 ⟨rfl, b1⟩
      have HB1 := Lib.hid (HB.out.trans (b1.mono HB.out.size))
      clear b1 HC
      cases hp : p s with
      | true =>
        have HI := Lib.hid (idx_skip p l k hk HA.out s HS.out hp)
        clear hp
        go_wp2
        go_ret
        exact ⟨by rw [HI.out]; rfl, HB1.out⟩
      | false =>
        have HP := Lib.hid hp
        clear hp
        go_wp2
        go_roundw
        case rel => exact ⟨k + 1, by omega, by go_num, HB1.out, fun j x hj hx => by
          rcases Nat.lt_succ_iff_lt_or_eq.1 hj with h | rfl
          · exact HA.out j x h hx
          · rw [HS.out] at hx; injection hx with hx; subst hx; exact HP.out⟩
        case measure => simp [intOf]; omega
    · obtain rfl : k = l.length := by omega
      have HI := Lib.hid (idx_none p l fun j x hx => HA.out j x (List.getElem?_eq_some_iff.1 hx).1 hx)
      go_wp2
      go_ret
      exact ⟨by rw [HI.out]; rfl, HB.out⟩
theorem number_any (h : HA) (n : Int) (w : World) (hR : h.R SA.cells w) (hl : h.sn.length ≤ 1000000) :
    Calls Try.prog 27 #[.agg h.cs, .int .i64 n] w fun e w' => e = .returned (.int .i64 (idxI (fun s : SA => s.num == n) h.sn)) ∧ Below w.heap.size w w' := by
  have B0 := Lib.hid ((below_alloc w (.cells h.cs 36)).alloc (by simp) (.cells #[.int .i64 n] 3))
  have hrow := (hR.row.since B0.out).more B0.out.size
  have HI := Lib.hid (index_num (w.heap.size + 1) h.cs' (.int .i64 n) (fun s => s.num == n) h.sn h.S _ hl hrow ((blk_two w (.cells h.cs 36) 3 #[.int .i64 n]).cell 0) (fun s hs w1 hg => num1_any s n _ w1 hg))
  clear hR hrow
  unfold HA.cs at *
  go_enter Try.func27, Try.ntmps27
  go_wp2_with fail
  refine HI.out.mono ?_
  rintro e w1 ⟨rfl, b1⟩
  go_wp2
  go_ret
  exact ⟨rfl, B0.out.trans (b1.mono B0.out.size)⟩
theorem find_any (h : HA) (bs : List Nat) (hb : ∀ b ∈ bs, b < 256) (w : World) (hR : h.R SA.cells w) (hl : h.sn.length ≤ 1000000) :
    Calls Try.prog 28 #[.agg h.cs, .string (strOf bs)] w fun e w' => e = .returned (.int .i64 (idxI (fun s : SA => decide (s.name = bs)) h.sn)) ∧ Below w.heap.size w w' := by
  have B0 := Lib.hid ((below_alloc w (.cells h.cs 36)).alloc (by simp) (.cells #[.string (strOf bs)] 9))
  have hrow := (hR.row.since B0.out).more B0.out.size
  have HI := Lib.hid (index_str (w.heap.size + 1) h.cs' (.string (strOf bs)) (fun s => decide (s.name = bs)) h.sn h.S _ hl hrow ((blk_two w (.cells h.cs 36) 9 #[.string (strOf bs)]).cell 0) (fun s hs w1 hg => snap1_any s bs _ w1 (hR.sn s hs).name hb hg))
  clear hR hrow
  unfold HA.cs at *
  go_enter Try.func28, Try.ntmps28
  go_wp2_with fail
  refine HI.out.mono ?_
  rintro e w1 ⟨rfl, b1⟩
  go_wp2
  go_ret
  exact ⟨rfl, B0.out.trans (b1.mono B0.out.size)⟩
theorem any_map {α β : Type} (f : α → β) (p : β → Bool) (l : List α) : (l.map f).any p = l.any fun x => p (f x) := by rw [List.any_map]; rfl
set_option maxHeartbeats 4000000 in
theorem intent_any (h : HA) (w : World) (hR : h.R SA.cells w) (hl : h.sn.length ≤ 1000000) :
    Calls Try.prog 43 #[.agg h.cs] w fun e w' => e = .returned (.bool h.v.itB) ∧ Below w.heap.size w w' := by
  have B0 := Lib.hid (below_alloc w (.cells h.cs 36))
  have HN := Lib.hid (number_any h h.tg _ (hR.since B0.out) hl)
  have hv : h.v.itB = (if h.it = 1 then decide (0 ≤ h.tg) && decide (h.tg ≤ 4096) else if h.it = 2 ∨ h.it = 3 then h.sn.any (fun s => s.num == h.tg) else if h.it = 0 ∨ h.it = 4 ∨ h.it = 5 then decide (h.tg = 0) else false) := by
    have := any_map SA.v (fun s : SnV => s.num == h.tg) h.sn
    have e : (h.sn.any fun s => s.num == h.tg) = h.sn.any fun x => x.v.num == h.tg := rfl
    rw [e, ← this]
    rfl
  have hq : (h.tg == 0) = decide (h.tg = 0) := by rw [Bool.eq_iff_iff, beq_iff_eq, decide_eq_true_iff]
  rw [hv]
  clear hv hR
  unfold HA.cs at *
  by_cases a0 : h.it = 0
  · have e0 : (h.it == 0) = true := by simpa using a0
    rw [if_neg (by omega), if_neg (by omega), if_pos (by omega), ← hq]
    clear hq a0
    go_enter Try.func43, Try.ntmps43
    go_wp2
    go_ret
    exact ⟨rfl, B0.out⟩
  have e0 : (h.it == 0) = false := by simpa using a0
  by_cases a4 : h.it = 4
  · have e4 : (h.it == 4) = true := by simpa using a4
    rw [if_neg (by omega), if_neg (by omega), if_pos (by omega), ← hq]
    clear hq a4 a0
    go_enter Try.func43, Try.ntmps43
    go_wp2
    go_ret
    exact ⟨rfl, B0.out⟩
  have e4 : (h.it == 4) = false := by simpa using a4
  by_cases a5 : h.it = 5
  · have e5 : (h.it == 5) = true := by simpa using a5
    rw [if_neg (by omega), if_neg (by omega), if_pos (by omega), ← hq]
    clear hq a5 a4 a0
    go_enter Try.func43, Try.ntmps43
    go_wp2
    go_ret
    exact ⟨rfl, B0.out⟩
  have e5 : (h.it == 5) = false := by simpa using a5
  by_cases a1 : h.it = 1
  · have e1 : (h.it == 1) = true := by simpa using a1
    rw [if_pos a1]
    clear hq a5 a4 a0 a1
    by_cases c1 : 0 ≤ h.tg
    · have d1 : decide (0 ≤ h.tg) = true := decide_eq_true c1
      go_enter Try.func43, Try.ntmps43
      go_wp2
      go_ret
      exact ⟨by first | rfl | (rw [d1]; rfl), B0.out⟩
    · have d1 : decide (0 ≤ h.tg) = false := decide_eq_false c1
      go_enter Try.func43, Try.ntmps43
      go_wp2
      go_ret
      exact ⟨by first | rfl | (rw [d1]; rfl), B0.out⟩
  have e1 : (h.it == 1) = false := by simpa using a1
  by_cases a2 : h.it = 2
  · have e2 : (h.it == 2) = true := by simpa using a2
    rw [if_neg (by omega), if_pos (by omega), ← idx_any]
    clear hq a5 a4 a0 a1 a2
    generalize idxI (fun s : SA => s.num == h.tg) h.sn = ix at *
    go_enter Try.func43, Try.ntmps43
    go_wp2_with fail
    refine HN.out.mono ?_
    rintro e w1 ⟨rfl, b1⟩
    go_wp2
    go_ret
    exact ⟨rfl, B0.out.trans (b1.mono B0.out.size)⟩
  have e2 : (h.it == 2) = false := by simpa using a2
  by_cases a3 : h.it = 3
  · have e3 : (h.it == 3) = true := by simpa using a3
    rw [if_neg (by omega), if_pos (by omega), ← idx_any]
    clear hq a5 a4 a0 a1 a2 a3
    generalize idxI (fun s : SA => s.num == h.tg) h.sn = ix at *
    go_enter Try.func43, Try.ntmps43
    go_wp2_with fail
    refine HN.out.mono ?_
    rintro e w1 ⟨rfl, b1⟩
    go_wp2
    go_ret
    exact ⟨rfl, B0.out.trans (b1.mono B0.out.size)⟩
  have e3 : (h.it == 3) = false := by simpa using a3
  rw [if_neg (by omega), if_neg (by omega), if_neg (by omega)]
  clear hq a5 a4 a0 a1 a2 a3
  go_enter Try.func43, Try.ntmps43
  go_wp2
  go_ret
  exact ⟨rfl, B0.out⟩
end Go.Proofs.Ytldnghmgdmjljaa
