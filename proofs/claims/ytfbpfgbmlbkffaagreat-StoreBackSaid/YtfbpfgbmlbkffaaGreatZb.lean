/-
  A region that draws its order, taken by hand, where one condition on the world holds behind each operation but the last one: what reads under the condition is taken first. No condition.
-/
import Derived.Test.YtfbpfgbmlbkffaaGreatZa
import Derived.Lib.ConvBytes
import Derived.BigQuiet
import Derived.Great.FillDense
import Derived.Laws.Tables
import Derived.Great.BuildSlice
import Derived.KernelRfl
import Derived.Deep.WholeRow

namespace Go.Proofs.YtfbpfgbmlbkffaaGreat
open Go.RowKit
section
variable {P : Program} {ops : Array Oper} {Q : Exit → Act → World → Prop} {md : Region.Mode} {S : World → Prop} {L : Nat}
/-- S is shown behind each operation but L -/
def wpAnyL (P : Program) (md : Region.Mode) (ops : Array Oper) (Q : Exit → Act → World → Prop) (S : World → Prop) (L : Nat) : Nat → Array Bool → Act → World → Prop
  | 0, l, a, w => Region.ready md ops l = [] ∧ Q .normal a w
  | f + 1, l, a, w => (Region.ready md ops l = [] → Q .normal a w) ∧ ∀ j ∈ Region.ready md ops l, wpOp P ops Q j (fun a' w' => (j ≠ L → S w') ∧ wpAnyL P md ops Q S L f (l.setIfInBounds j true) a' w') a w
theorem any_of_L : ∀ (f : Nat) (l : Array Bool) (a : Act) (w : World), wpAnyL P md ops Q S L f l a w → wpAny P md ops Q f l a w
  | 0, _, _, _, h => h
  | f + 1, _, _, _, h => ⟨h.1, fun j hj => wpOp_mono (fun a' w' h' => any_of_L f _ a' w' h'.2) (h.2 j hj)⟩
theorem L_first {i : Nat} {oi oL : Oper} {v : Value} (hi : ops[i]? = some oi) (hL : ops[L]? = some oL) (hw : oL.after.any (fun e => Region.binds md e && e.on == i) = true) (hsel : ∀ (j : Nat) (o : Oper) cs b, ops[j]? = some o → o.op ≠ .select cs b)
    (hQ : ∀ c a w, Q (.panic c) (a.put oi.dst v) w → Q (.panic c) a w) :
    ∀ (f : Nat) (l : Array Bool) (a : Act) (w : World),
      (∀ j oj, ops[j]? = some oj → j ≠ i → l.getD j true = false → (∀ e ∈ oj.after, Region.binds md e = true → e.on ≠ i) → oi.apart ops oj = true) →
      i ∈ Region.ready md ops l → YieldsIf P ops S oi v a → S w →
      wpAnyL P md ops Q S L f (l.setIfInBounds i true) (a.put oi.dst v) w → wpAnyL P md ops Q S L (f + 1) l a w
  | 0, l, a, w, _, hr, hy, hS, H => by
    refine ⟨fun h => (by rw [h] at hr; cases hr), fun j hj => ?_⟩
    by_cases hji : j = i
    · subst hji
      exact hy.wpOp hi hS ⟨fun _ => hS, H⟩
    · have := ready_mono hj hji
      rw [H.1] at this
      cases this
  | f + 1, l, a, w, hfree, hr, hy, hS, H => by
    refine ⟨fun h => (by rw [h] at hr; cases hr), fun j hj => ?_⟩
    by_cases hji : j = i
    · subst hji
      exact hy.wpOp hi hS ⟨fun _ => hS, H⟩
    · obtain ⟨hjun, oj, hoj, hall⟩ := mem_ready.1 hj
      have hiun : l.getD i true = false := (mem_ready.1 hr).1
      have h1 := H.2 j (ready_mono hj hji)
      have hnot : ∀ e ∈ oj.after, Region.binds md e = true → e.on ≠ i := fun e he hb heq => by
        have h2 := hall e he hb
        rw [heq] at h2
        rcases Nat.lt_or_ge i l.size with h' | h'
        · simp [h'] at hiun h2
          rw [hiun] at h2
          cases h2
        · simp [Array.getElem?_eq_none h'] at h2
      have hjL : j ≠ L := by
        rintro rfl
        rw [hL] at hoj
        injection hoj with hoj
        subst hoj
        obtain ⟨k, hk, he⟩ := Array.any_eq_true.1 hw
        simp only [Bool.and_eq_true, beq_iff_eq] at he
        exact hnot _ (Array.getElem_mem hk) he.1 he.2
      have h2 := wpOp_putIf hoj (hfree j oj hoj hji hjun hnot) (fun cs b => hsel i oi cs b hi) (fun cs b => hsel j oj cs b hoj) hQ hy h1
      refine wpOp_mono (fun a' w' h3 => ?_) h2
      obtain ⟨hy', hS', H'⟩ := h3
      rw [Array.setIfInBounds_comm _ _ (Ne.symm hji)] at H'
      refine ⟨fun _ => hS' hjL, L_first hi hL hw hsel hQ f _ a' w' (fun k ok hk hki hun hno => hfree k ok hk hki ?_ hno) (ready_mono hr (Ne.symm hji)) hy' (hS' hjL) H'⟩
      by_cases hjk : j = k
      · subst hjk; exact hjun
      · rw [getD_set_ne true hjk] at hun; exact hun
/-- what reads under S is taken first -/
theorem L_take {i : Nat} {oi oL : Oper} {v : Value} {f : Nat} {l : Array Bool} {a : Act} {w : World} (hi : ops[i]? = some oi) (hL : ops[L]? = some oL) (hw : oL.after.any (fun e => Region.binds md e && e.on == i) = true) (hs : Region.noSelect ops = true) (hf : Region.free md ops l i = true) (hr : (Region.ready md ops l).contains i = true)
    (hQ : ∀ c a w, Q (.panic c) (a.put oi.dst v) w → Q (.panic c) a w) (hy : YieldsIf P ops S oi v a) (hS : S w)
    (h : wpAnyL P md ops Q S L f (l.setIfInBounds i true) (a.put oi.dst v) w) : wpAnyL P md ops Q S L (f + 1) l a w :=
  L_first hi hL hw (Region.noSelect_spec hs) hQ f l a w (Region.free_spec hi hf) (by simpa using hr) hy hS h
/-- the same where S is shown behind each operation -/
theorem S_first {i : Nat} {oi : Oper} {v : Value} (hi : ops[i]? = some oi) (hL : ops[L]? = none) (hsel : ∀ (j : Nat) (o : Oper) cs b, ops[j]? = some o → o.op ≠ .select cs b)
    (hQ : ∀ c a w, Q (.panic c) (a.put oi.dst v) w → Q (.panic c) a w) :
    ∀ (f : Nat) (l : Array Bool) (a : Act) (w : World),
      (∀ j oj, ops[j]? = some oj → j ≠ i → l.getD j true = false → (∀ e ∈ oj.after, Region.binds md e = true → e.on ≠ i) → oi.apart ops oj = true) →
      i ∈ Region.ready md ops l → YieldsIf P ops S oi v a → S w →
      wpAnyL P md ops Q S L f (l.setIfInBounds i true) (a.put oi.dst v) w → wpAnyL P md ops Q S L (f + 1) l a w
  | 0, l, a, w, _, hr, hy, hS, H => by
    refine ⟨fun h => (by rw [h] at hr; cases hr), fun j hj => ?_⟩
    by_cases hji : j = i
    · subst hji
      exact hy.wpOp hi hS ⟨fun _ => hS, H⟩
    · have := ready_mono hj hji
      rw [H.1] at this
      cases this
  | f + 1, l, a, w, hfree, hr, hy, hS, H => by
    refine ⟨fun h => (by rw [h] at hr; cases hr), fun j hj => ?_⟩
    by_cases hji : j = i
    · subst hji
      exact hy.wpOp hi hS ⟨fun _ => hS, H⟩
    · obtain ⟨hjun, oj, hoj, hall⟩ := mem_ready.1 hj
      have hiun : l.getD i true = false := (mem_ready.1 hr).1
      have h1 := H.2 j (ready_mono hj hji)
      have hnot : ∀ e ∈ oj.after, Region.binds md e = true → e.on ≠ i := fun e he hb heq => by
        have h2 := hall e he hb
        rw [heq] at h2
        rcases Nat.lt_or_ge i l.size with h' | h'
        · simp [h'] at hiun h2
          rw [hiun] at h2
          cases h2
        · simp [Array.getElem?_eq_none h'] at h2
      have hjL : j ≠ L := by
        rintro rfl
        rw [hL] at hoj
        cases hoj
      have h2 := wpOp_putIf hoj (hfree j oj hoj hji hjun hnot) (fun cs b => hsel i oi cs b hi) (fun cs b => hsel j oj cs b hoj) hQ hy h1
      refine wpOp_mono (fun a' w' h3 => ?_) h2
      obtain ⟨hy', hS', H'⟩ := h3
      rw [Array.setIfInBounds_comm _ _ (Ne.symm hji)] at H'
      refine ⟨fun _ => hS' hjL, S_first hi hL hsel hQ f _ a' w' (fun k ok hk hki hun hno => hfree k ok hk hki ?_ hno) (ready_mono hr (Ne.symm hji)) hy' (hS' hjL) H'⟩
      by_cases hjk : j = k
      · subst hjk; exact hjun
      · rw [getD_set_ne true hjk] at hun; exact hun
theorem S_take {i : Nat} {oi : Oper} {v : Value} {f : Nat} {l : Array Bool} {a : Act} {w : World} (hi : ops[i]? = some oi) (hL : ops[L]? = none) (hs : Region.noSelect ops = true) (hf : Region.free md ops l i = true) (hr : (Region.ready md ops l).contains i = true)
    (hQ : ∀ c a w, Q (.panic c) (a.put oi.dst v) w → Q (.panic c) a w) (hy : YieldsIf P ops S oi v a) (hS : S w)
    (h : wpAnyL P md ops Q S L f (l.setIfInBounds i true) (a.put oi.dst v) w) : wpAnyL P md ops Q S L (f + 1) l a w :=
  S_first hi hL (Region.noSelect_spec hs) hQ f l a w (Region.free_spec hi hf) (by simpa using hr) hy hS h
theorem L_done {f : Nat} {l : Array Bool} {a : Act} {w : World} (hr : Region.ready md ops l = []) (h : Q .normal a w) : wpAnyL P md ops Q S L f l a w := by
  cases f with
  | zero => exact ⟨hr, h⟩
  | succ f => exact ⟨fun _ => h, fun j hj => by rw [hr] at hj; cases hj⟩
/-- one alone may come up, S stands behind it -/
theorem L_one {j : Nat} {o : Oper} {f : Nat} {l : Array Bool} {a : Act} {w : World} (hr : Region.ready md ops l = [j]) (ho : ops[j]? = some o) (hw : Region.wanted o (yielded ops a.tmps) = true)
    (h : Oper.wp P o a w (fun a' w' => S w' ∧ wpAnyL P md ops Q S L f (l.setIfInBounds j true) a' w') Q) : wpAnyL P md ops Q S L (f + 1) l a w := by
  refine ⟨fun h0 => absurd (hr ▸ h0) (by simp), fun k hk => ?_⟩
  rw [hr] at hk
  obtain rfl := List.mem_singleton.1 hk
  refine wpOp_step ho (fun K hK => ?_)
  rw [if_pos hw]
  exact Oper.wp_mono (fun a' w' h' => hK a' w' ⟨fun _ => h'.1, h'.2⟩) h
/-- the last one alone may come up -/
theorem L_last {o : Oper} {f : Nat} {l : Array Bool} {a : Act} {w : World} (hr : Region.ready md ops l = [L]) (ho : ops[L]? = some o) (hw : Region.wanted o (yielded ops a.tmps) = true) (hd : Region.ready md ops (l.setIfInBounds L true) = [])
    (h : Oper.wp P o a w (fun a' w' => Q .normal a' w') Q) : wpAnyL P md ops Q S L (f + 1) l a w := by
  refine ⟨fun h0 => absurd (hr ▸ h0) (by simp), fun k hk => ?_⟩
  rw [hr] at hk
  obtain rfl := List.mem_singleton.1 hk
  refine wpOp_step ho (fun K hK => ?_)
  rw [if_pos hw]
  refine Oper.wp_mono (fun a' w' h' => hK a' w' ⟨fun hne => absurd rfl hne, ?_⟩) h
  cases f with
  | zero => exact ⟨hd, h'⟩
  | succ f => exact ⟨fun _ => h', fun j hj => by rw [hd] at hj; cases hj⟩
/-- the region begins -/
theorem any_beginL {id : Nat} {a : Act} {w : World} (S : World → Prop) (L : Nat) (hm : P.follows .mixedOrders = true) (h : wpAnyL P .any ops (NoPanic Q) S L ops.size (Array.replicate ops.size false) a w.drew) : (Code.region id ops true).wp P Q a w :=
  wp_region_noPanic (wp_region_any hm (any_of_L _ _ _ _ h))
end
end Go.Proofs.YtfbpfgbmlbkffaaGreat

/-
  Spaces: the numbers, and the search in a row of flags. Conditions: a row reads as it is said to; it is no longer than a space may be.
-/
namespace Go.Proofs.YtfbpfgbmlbkffaaGreat
open Go.RowKit Go.BigFrame
set_option linter.unusedSimpArgs false
set_option linter.unusedVariables false
def intS : Value → Int
  | .int _ i => i
  | _ => 0
/-- a row of flags, as cells -/
def flagsS (l : List Bool) : List Value := l.map Value.bool
/-- the first one like b -/
def FirstAt (l : List Bool) (b : Bool) (r : Int) : Prop := (r = -1 ∧ ∀ j, j < l.length → l[j]? = some (!b)) ∨ ∃ k : Nat, r = (k : Int) ∧ k < l.length ∧ l[k]? = some b ∧ ∀ j, j < k → l[j]? = some (!b)
section
variable {w : World} {g : Nat} {A : Option Addr} {n c : Nat} {left : Int}
theorem slen_any (h : Blk w g 134 #[.slice A n c, .int .i64 left]) : Calls Tryz.prog 47 #[.pointer (some ⟨g, 0, none⟩)] w fun e w' => e = .returned (.int .i64 (n : Int)) ∧ w = w' := by
  have q0 : w.cell? ⟨g, 0, none⟩ = some (.slice A n c) := h.cell 0
  clear h
  go_enter Tryz.func47, Tryz.ntmps47
  go_wp2
  go_ret
  exact ⟨rfl, rfl⟩
theorem sfree_any (h : Blk w g 134 #[.slice A n c, .int .i64 left]) : Calls Tryz.prog 51 #[.pointer (some ⟨g, 0, none⟩)] w fun e w' => e = .returned (.int .i64 left) ∧ w = w' := by
  have q1 : w.cell? ⟨g, 1, none⟩ = some (.int .i64 left) := h.cell 1
  clear h
  go_enter Tryz.func51, Tryz.ntmps51
  go_wp2
  go_ret
  exact ⟨rfl, rfl⟩
end
theorem slen_nil (w : World) : Calls Tryz.prog 47 #[.pointer none] w fun e w' => e = .returned (.int .i64 0) ∧ w = w' := by
  go_enter Tryz.func47, Tryz.ntmps47
  go_wp2
  go_ret
  exact ⟨rfl, rfl⟩
theorem sfree_nil (w : World) : Calls Tryz.prog 51 #[.pointer none] w fun e w' => e = .returned (.int .i64 0) ∧ w = w' := by
  go_enter Tryz.func51, Tryz.ntmps51
  go_wp2
  go_ret
  exact ⟨rfl, rfl⟩
set_option maxHeartbeats 1000000 in
theorem index_any (A : Option Addr) (c B : Nat) (l : List Bool) (b : Bool) (w : World) (hR : Reads w B 1 A l.length (flagsS l)) (hl : l.length ≤ 1000000000) :
    Calls Tryz.prog 156 #[.slice A l.length c, .bool b] w fun e w' => ∃ r : Int, e = .returned (.int .i64 r) ∧ w = w' ∧ FirstAt l b r := by
  have HR := Lib.hid hR
  clear hR
  go_enter Tryz.func156, Tryz.ntmps156
  go_wp2
  go_loopw [8] (fun i wr => ∃ k : Nat, k ≤ l.length ∧ i = .int .i64 k ∧ wr = w ∧ ∀ j, j < k → l[j]? = some (!b)) (fun i _ => l.length - (intS i).toNat)
  case atStart => exact ⟨0, by omega, rfl, rfl, fun j h => by omega⟩
  case round =>
    obtain ⟨k, hk, rfl, rfl, hall⟩ := hrel
    have HALL := Lib.hid hall
    clear hall
    by_cases hlt : k < l.length
    · obtain ⟨ad, u, rfl, -, hu, hc⟩ := HR.out.at_ hlt
      obtain ⟨x, hx, rfl⟩ : ∃ x, l[k]? = some x ∧ u = .bool x := by
        simp only [flagsS, List.getElem?_map, List.getElem?_eq_getElem hlt, Option.map_some, Option.some.injEq] at hu
        exact ⟨_, List.getElem?_eq_getElem hlt, hu.symm⟩
      have HX := Lib.hid hx
      clear hu hx
      by_cases hb : b = x
      · have hq : (b == x) = true := by simp [hb]
        go_wp2
        go_ret
        exact ⟨k, rfl, rfl, .inr ⟨k, rfl, hlt, by rw [HX.out, hb], HALL.out⟩⟩
      · have hq : (b == x) = false := by simpa using hb
        go_wp2
        go_roundw
        case rel =>
          refine ⟨k + 1, by omega, by go_num, by trivial, fun j hj => ?_⟩
          rcases Nat.lt_succ_iff_lt_or_eq.1 hj with h | rfl
          · exact HALL.out j h
          · rw [HX.out]; cases b <;> cases x <;> simp_all
        case measure => simp [intS]; omega
    · obtain rfl : k = l.length := by omega
      go_wp2
      go_ret
      exact ⟨-1, rfl, rfl, .inl ⟨rfl, HALL.out⟩⟩
set_option maxHeartbeats 1000000 in
theorem contains_any (A : Option Addr) (c B : Nat) (l : List Bool) (b : Bool) (w : World) (hR : Reads w B 1 A l.length (flagsS l)) (hl : l.length ≤ 1000000000) :
    Calls Tryz.prog 142 #[.slice A l.length c, .bool b] w fun e w' => ∃ r : Bool, e = .returned (.bool r) ∧ w = w' ∧ (r = true ↔ b ∈ l) := by
  have HR := Lib.hid hR
  clear hR
  go_enter Tryz.func142, Tryz.ntmps142
  go_wp2_with fail
  refine (index_any A c B l b w HR.out hl).mono ?_
  rintro e w' ⟨r, rfl, rfl, hf⟩
  rcases hf with ⟨rfl, hall⟩ | ⟨k, rfl, h1, h2, -⟩
  · have HALL := Lib.hid hall
    clear hall
    go_wp2
    go_ret
    refine ⟨false, rfl, rfl, by simp, fun hm => ?_⟩
    obtain ⟨j, hj, e⟩ := List.mem_iff_getElem.1 hm
    have := HALL.out j hj
    rw [List.getElem?_eq_getElem hj, e] at this
    cases b <;> simp at this
  · have H2 := Lib.hid h2
    clear h2
    have hd : decide ((0 : Int) ≤ (k : Int)) = true := decide_eq_true (by omega)
    go_wp2
    go_ret
    exact ⟨true, rfl, rfl, fun _ => List.mem_of_getElem? H2.out, fun _ => rfl⟩
end Go.Proofs.YtfbpfgbmlbkffaaGreat

/-
  Stores: clients and names. Conditions: a name's signs are bytes.
-/
namespace Go.Proofs.YtfbpfgbmlbkffaaGreat
open Go.RowKit Go.BigFrame
set_option linter.unusedSimpArgs false
set_option linter.unusedVariables false
set_option maxRecDepth 100000
theorem strOf_size (bs : List Nat) : (strOf bs).size = bs.length := by simp [strOf, strOfNums_size]
/-- a string as new bytes -/
theorem conv_str (w : World) (bs : List Nat) (hb : ∀ b ∈ bs, b < 256) : ∃ cap w', (convert 9 22 (.string (strOf bs))).run Tryz.prog w = .ok (.slice (some ⟨w.heap.size, 0, none⟩) bs.length cap) w' ∧ Below w.heap.size w w' ∧ Bytes w' (w.heap.size + 1) (some ⟨w.heap.size, 0, none⟩) bs.length bs := by
  have h := Lib.run_convert_string_bytes (P := Tryz.prog) w 9 22 5 (strOf bs) Tryz.underlying9 Tryz.underlying22 Tryz.underlying5
  rw [strOf_size] at h
  refine ⟨_, _, h, ⟨rfl, rfl, rfl, by rw [Lib.bytesWorld_size]; omega, fun i hi => Lib.bytesWorld_at_old _ _ _ _ hi⟩, ⟨⟨by simp [u8s], fun hn => ⟨_, rfl, Nat.lt_succ_self _, fun j u hu => ?_⟩⟩, hb⟩⟩
  have hj : j < bs.length := by
    rcases Nat.lt_or_ge j bs.length with h' | h'
    · exact h'
    · rw [List.getElem?_eq_none (by rw [u8s_length]; exact h')] at hu; cases hu
  rw [add_zero_off, Lib.bytesWorld_cell _ _ _ _ (by rw [strOf_size]; exact hj), ← hu]
  have hbj := hb _ (List.getElem_mem hj)
  simp [strOf, strOfNums_data, u8s, u8, hj]
  omega
/-- a sign that a name may have -/
def okChar (b : Nat) : Bool := decide (33 ≤ b) && decide (b ≤ 126)
def isNameB (bs : List Nat) : Bool := decide (1 ≤ bs.length) && decide (bs.length ≤ 32) && bs.all okChar
def isClientB (n : Int) : Bool := decide (0 ≤ n) && decide (n < 8)
theorem isClient_any (n : Int) (w : World) : Calls Tryz.prog 41 #[.int .i64 n] w fun e w' => e = .returned (.bool (isClientB n)) ∧ w = w' := by
  unfold isClientB
  by_cases h1 : 0 ≤ n
  · have hd1 : decide ((0 : Int) ≤ n) = true := decide_eq_true h1
    by_cases h2 : n < 8
    · have hd2 : decide (n < (8 : Int)) = true := decide_eq_true h2
      go_enter Tryz.func41, Tryz.ntmps41
      go_wp2
      go_ret
      exact ⟨by simp [hd1, hd2], rfl⟩
    · have hd2 : decide (n < (8 : Int)) = false := decide_eq_false h2
      go_enter Tryz.func41, Tryz.ntmps41
      go_wp2
      go_ret
      exact ⟨by simp [hd1, hd2], rfl⟩
  · have hd1 : decide ((0 : Int) ≤ n) = false := decide_eq_false h1
    go_enter Tryz.func41, Tryz.ntmps41
    go_wp2
    go_ret
    exact ⟨by simp [hd1], rfl⟩
theorem odd_any (b : Nat) (hb : b < 256) (w : World) : Calls Tryz.prog 77 #[.int .u8 (b : Int)] w fun e w' => e = .returned (.bool (!okChar b)) ∧ w = w' := by
  unfold okChar
  by_cases h1 : b < 33
  · have hd1 : decide ((b : Int) < 33) = true := decide_eq_true (by omega)
    have hd1' : decide (b < 33) = true := decide_eq_true h1
    have hr : (!(decide (33 ≤ b) && decide (b ≤ 126))) = true := by simp; omega
    go_enter Tryz.func77, Tryz.ntmps77
    go_wp2
    go_ret
    exact ⟨by rw [hr]; rfl, rfl⟩
  · have hd1 : decide ((b : Int) < 33) = false := decide_eq_false (by omega)
    have hd1' : decide (b < 33) = false := decide_eq_false h1
    by_cases h2 : 126 < b
    · have hd2 : decide ((126 : Int) < (b : Int)) = true := decide_eq_true (by omega)
      have hd2' : decide (126 < b) = true := decide_eq_true h2
      have hr : (!(decide (33 ≤ b) && decide (b ≤ 126))) = true := by simp; omega
      go_enter Tryz.func77, Tryz.ntmps77
      go_wp2
      go_ret
      exact ⟨by rw [hr]; rfl, rfl⟩
    · have hd2 : decide ((126 : Int) < (b : Int)) = false := decide_eq_false (by omega)
      have hd2' : decide (126 < b) = false := decide_eq_false h2
      have hr : (!(decide (33 ≤ b) && decide (b ≤ 126))) = false := by simp; omega
      go_enter Tryz.func77, Tryz.ntmps77
      go_wp2
      go_ret
      exact ⟨by rw [hr]; rfl, rfl⟩
def oddV : Value := .func (.func 77) #[] #[]
set_option maxHeartbeats 2000000 in
theorem index_odd {w : World} {B c : Nat} {A : Option Addr} {bs : List Nat} (h : Bytes w B A bs.length bs) (hl : bs.length ≤ 65536) :
    Calls Tryz.prog 100 #[.slice A bs.length c, oddV] w fun e w' => (∃ v : Int, e = .returned (.int .i64 v) ∧ ((v = -1 ∧ bs.all okChar = true) ∨ (0 ≤ v ∧ bs.all okChar = false))) ∧ w = w' := by
  have H := Lib.hid h
  clear h
  go_enter Tryz.func100, Tryz.ntmps100
  unfold oddV
  go_wp2
  go_loopw [8] (fun i wr => ∃ k : Nat, k ≤ bs.length ∧ i = .int .i64 k ∧ wr = w ∧ ∀ j b, j < k → bs[j]? = some b → okChar b = true) (fun i _ => bs.length - (intS i).toNat)
  case atStart => exact ⟨0, by omega, rfl, by trivial, fun j b h => by omega⟩
  case round =>
    obtain ⟨k, hk, rfl, rfl, hall⟩ := hrel
    have HA := Lib.hid hall
    clear hall
    by_cases hlt : k < bs.length
    · obtain ⟨ad, b, rfl, hb, hb2, hc⟩ := H.out.at_ hlt
      have HB := Lib.hid hb
      have HO := Lib.hid (odd_any b hb2 wr)
      have hwk : IntKind.i64.wrap ((k : Int) + 1) = (k : Int) + 1 := by rw [IntKind.wrap_i64]; omega
      clear hb
      go_wp2_with fail
      refine HO.out.mono ?_
      rintro e w' ⟨rfl, rfl⟩
      clear HO
      by_cases hok : okChar b = true
      · have HOK := Lib.hid hok
        rw [hok]
        clear hok
        go_wp2
        go_roundw
        case rel => exact ⟨k + 1, by omega, by go_num, by trivial, fun j b' hj hb' => by
          rcases Nat.lt_succ_iff_lt_or_eq.1 hj with h | rfl
          · exact HA.out j b' h hb'
          · rw [HB.out] at hb'; injection hb' with hb'; subst hb'; exact HOK.out⟩
        case measure => simp [intS]; omega
      · have hok' : okChar b = false := by simpa using hok
        have HOK := Lib.hid hok'
        rw [hok']
        clear hok hok'
        go_wp2
        go_ret
        refine ⟨⟨_, rfl, .inr ⟨by omega, ?_⟩⟩, rfl⟩
        rw [List.all_eq_false]
        exact ⟨b, List.mem_of_getElem? HB.out, by rw [HOK.out]; simp⟩
    · obtain rfl : k = bs.length := by omega
      go_wp2
      go_ret
      refine ⟨⟨_, rfl, .inl ⟨rfl, ?_⟩⟩, rfl⟩
      rw [List.all_eq_true]
      intro b hb
      obtain ⟨j, hj, rfl⟩ := List.mem_iff_getElem.1 hb
      exact HA.out j _ hj (List.getElem?_eq_getElem hj)
theorem contains_odd {w : World} {B c : Nat} {A : Option Addr} {bs : List Nat} (h : Bytes w B A bs.length bs) (hl : bs.length ≤ 65536) :
    Calls Tryz.prog 78 #[.slice A bs.length c, oddV] w fun e w' => e = .returned (.bool (!bs.all okChar)) ∧ w = w' := by
  have HI := Lib.hid (index_odd (c := c) h hl)
  clear h
  go_enter Tryz.func78, Tryz.ntmps78
  go_wp2_with fail
  refine HI.out.mono ?_
  rintro e w' ⟨⟨v, rfl, hv⟩, rfl⟩
  rcases hv with ⟨rfl, hv⟩ | ⟨hv0, hv⟩
  · have HV := Lib.hid hv
    clear hv
    go_wp2
    go_ret
    exact ⟨by rw [HV.out]; rfl, rfl⟩
  · have HV := Lib.hid hv
    have hd : decide ((0 : Int) ≤ v) = true := decide_eq_true hv0
    clear hv
    go_wp2
    go_ret
    exact ⟨by rw [HV.out]; rfl, rfl⟩
set_option maxHeartbeats 1000000 in
theorem isName_any (bs : List Nat) (hb : ∀ b ∈ bs, b < 256) (hl : bs.length ≤ 1000000) (w : World) : Calls Tryz.prog 42 #[.string (strOf bs)] w fun e w' => e = .returned (.bool (isNameB bs)) ∧ Below w.heap.size w w' := by
  have hsz := strOf_size bs
  unfold isNameB
  by_cases h1 : 1 ≤ bs.length
  · have hd1 : decide ((1 : Int) ≤ (bs.length : Int)) = true := decide_eq_true (by omega)
    have hd1' : decide (1 ≤ bs.length) = true := decide_eq_true h1
    by_cases h2 : bs.length ≤ 32
    · have hd2 : decide ((bs.length : Int) ≤ 32) = true := decide_eq_true (by omega)
      have hd2' : decide (bs.length ≤ 32) = true := decide_eq_true h2
      have HB := Lib.hid hb
      clear hb
      obtain ⟨cap, w2, hr, hbl, hby⟩ := conv_str w bs HB.out
      have HC := Lib.hid (contains_odd (c := cap) hby (by omega))
      have HBL := Lib.hid hbl
      unfold oddV at HC
      clear hbl hby
      go_enter Tryz.func42, Tryz.ntmps42
      go_wp2_with fail
      refine HC.out.mono ?_
      rintro e w' ⟨rfl, rfl⟩
      have hr' : ∀ q, (decide (1 ≤ bs.length) && decide (bs.length ≤ 32) && q) = q := fun q => by rw [hd1', hd2']; cases q <;> rfl
      rcases Bool.eq_false_or_eq_true (bs.all okChar) with hall | hall
      · rw [hall]
        have HA := Lib.hid hall
        clear hall
        go_wp2
        go_ret
        exact ⟨by rw [hr', HA.out]; rfl, HBL.out⟩
      · rw [hall]
        have HA := Lib.hid hall
        clear hall
        go_wp2
        go_ret
        exact ⟨by rw [hr', HA.out]; rfl, HBL.out⟩
    · have hd2 : decide ((bs.length : Int) ≤ 32) = false := decide_eq_false (by omega)
      have hd2' : decide (bs.length ≤ 32) = false := decide_eq_false h2
      have hr' : (decide (1 ≤ bs.length) && decide (bs.length ≤ 32) && bs.all okChar) = false := by rw [hd1', hd2']; rfl
      rw [hr']
      go_enter Tryz.func42, Tryz.ntmps42
      go_wp2
      go_ret
      exact ⟨rfl, Below.refl _ _⟩
  · have hd1 : decide ((1 : Int) ≤ (bs.length : Int)) = false := decide_eq_false (by omega)
    have hd1' : decide (1 ≤ bs.length) = false := decide_eq_false h1
    have hr' : (decide (1 ≤ bs.length) && decide (bs.length ≤ 32) && bs.all okChar) = false := by rw [hd1']; rfl
    rw [hr']
    go_enter Tryz.func42, Tryz.ntmps42
    go_wp2
    go_ret
    exact ⟨rfl, Below.refl _ _⟩
end Go.Proofs.YtfbpfgbmlbkffaaGreat

/-
  Spaces: how long a row of free blocks is from one on. Conditions: a space's row reads as it is said to; it is no longer than its room.
-/
namespace Go.Proofs.YtfbpfgbmlbkffaaGreat
open Go.RowKit Go.BigFrame
set_option linter.unusedSimpArgs false
set_option linter.unusedVariables false
theorem run_cut_flags (A : Option Addr) (m c k : Nat) (hk : k ≤ m) (w : World) : (Instr.slice 30 (.slice A m c) (some (.int .i64 k)) none none).run Tryz.prog w = .ok (.slice (if c = k then A else A.map (·.add (k * 1))) (m - k) (c - k)) w := by
  have hsz : ∀ w, (sizeOf (Tryz.prog.elem 30)).run Tryz.prog w = .ok 1 w := fun w => by kernel_rfl
  rw [run_slice_l w 30 A m c (by kernel_rfl) .i64 k (by omega) (by omega), hsz]
  simp only [Result.andThen, sliced, Int.toNat_natCast]
/-- how many are free from the first on -/
def runOf (l : List Bool) : Nat := (l.takeWhile id).length
theorem run_all : ∀ {l : List Bool}, (∀ j, j < l.length → l[j]? = some true) → runOf l = l.length
  | [], _ => rfl
  | b :: l, h => by
    have h0 := h 0 (by simp)
    simp at h0
    subst h0
    have := run_all (l := l) (fun j hj => by simpa using h (j + 1) (by simpa using hj))
    simp [runOf] at this ⊢
    exact this
theorem run_at : ∀ {l : List Bool} {k : Nat}, l[k]? = some false → (∀ j, j < k → l[j]? = some true) → runOf l = k
  | [], k, h, _ => by simp at h
  | b :: l, 0, h, _ => by
    simp at h
    subst h
    simp [runOf]
  | b :: l, k + 1, h, h' => by
    have h0 := h' 0 (by omega)
    simp at h0
    subst h0
    have := run_at (l := l) (k := k) (by simpa using h) (fun j hj => by simpa using h' (j + 1) (by omega))
    simp [runOf] at this ⊢
    exact this
theorem run_le (l : List Bool) : runOf l ≤ l.length := by
  induction l with
  | nil => simp [runOf]
  | cons b l ih => cases b <;> simp [runOf] at ih ⊢ <;> omega
set_option maxHeartbeats 300000 in
theorem freeFrom_any {w : World} {g : Nat} {A : Option Addr} {c : Nat} {left : Int} (fl : List Bool) (k : Nat) (hk : k ≤ fl.length) (hc : fl.length ≤ c) (hl : fl.length ≤ 1000000000) (h : Blk w g 134 #[.slice A fl.length c, .int .i64 left]) {B : Nat} (hR : Reads w B 1 A fl.length (flagsS fl)) :
    Calls Tryz.prog 141 #[.pointer (some ⟨g, 0, none⟩), .int .i64 k] w fun e w' => e = .returned (.int .i64 (runOf (fl.drop k) : Nat)) ∧ w = w' := by
  have q0 : w.cell? ⟨g, 0, none⟩ = some (.slice A fl.length c) := h.cell 0
  have hcut := hR.cut hk hc
  have hd : (fl.drop k).length = fl.length - k := List.length_drop
  rw [show (flagsS fl).drop (k * 1) = flagsS (fl.drop k) from by rw [Nat.mul_one, flagsS, flagsS, List.map_drop], ← hd] at hcut
  have hsl := run_cut_flags A fl.length c k hk
  generalize hAc : (if c = k then A else A.map (·.add (k * 1))) = Ac at *
  generalize fl.drop k = l at *
  have hi := fun w' (e : w' = w) => index_any Ac (c - k) B l false w' (e ▸ hcut) (by omega)
  simp only [hd] at hi
  have HI := Lib.hid hi
  have HL := Lib.hid (slen_any h)
  have HD := Lib.hid hd
  clear hcut h hR hAc hi hd
  have hk' : ((fl.length : Int) - (k : Int)) = ((fl.length - k : Nat) : Int) := by omega
  go_enter Tryz.func141, Tryz.ntmps141
  go_wp2_with fail
  refine (HI.out _ rfl).mono ?_
  rintro e w' ⟨r, rfl, rfl, hf⟩
  rcases hf with ⟨rfl, hall⟩ | ⟨j, rfl, h1, h2, h3⟩
  · have HR := Lib.hid (run_all hall)
    clear hall
    go_wp2_with fail
    refine HL.out.mono ?_
    rintro e w' ⟨rfl, rfl⟩
    go_wp2
    go_ret
    rw [HR.out, HD.out]
    exact ⟨by go_num, rfl⟩
  · have HR := Lib.hid (run_at h2 h3)
    have hd0 : decide ((j : Int) < 0) = false := decide_eq_false (by omega)
    clear h2 h3
    go_wp2
    go_ret
    rw [HR.out]
    exact ⟨rfl, rfl⟩
end Go.Proofs.YtfbpfgbmlbkffaaGreat

/-
  Spaces: whether an extent's blocks are all there and like each other. Conditions: a space's row reads as it is said to; the extent's numbers are int's.
-/
namespace Go.Proofs.YtfbpfgbmlbkffaaGreat
open Go.RowKit Go.BigFrame
set_option linter.unusedSimpArgs false
set_option linter.unusedVariables false
/-- an extent has blocks, all are there, all are like b -/
def AllAt (fl : List Bool) (x y : Int) (b : Bool) : Prop := 1 ≤ y ∧ 0 ≤ x ∧ x + y ≤ (fl.length : Int) ∧ ∀ j : Nat, x ≤ (j : Int) → (j : Int) < x + y → fl[j]? = some b
theorem drawn_below {B : Nat} {a w : World} (h : Below B a w) (q : Nat) : Below B a (w.drewN q) := ⟨h.os, h.tape, h.output, h.size, h.block⟩
set_option maxHeartbeats 1000000 in
theorem sall_not {w : World} {g : Nat} {A : Option Addr} {c : Nat} {left : Int} (fl : List Bool) (x y : Int) (b : Bool) (hx1 : -9223372036854775808 ≤ x) (hx2 : x ≤ 9223372036854775807) (hy1 : -9223372036854775808 ≤ y) (hy2 : y ≤ 9223372036854775807) (hl : fl.length ≤ 1000000000)
    (h : Blk w g 134 #[.slice A fl.length c, .int .i64 left]) (hno : y < 1 ∨ x < 0 ∨ (fl.length : Int) < x + y) :
    Calls Tryz.prog 125 #[.pointer (some ⟨g, 0, none⟩), .agg #[.int .i64 x, .int .i64 y], .bool b] w fun e w' => e = .returned (.bool false) ∧ Below w.heap.size w w' := by
  have H := Lib.hid h
  clear h
  by_cases h1 : y < 1
  · have hd1 : decide (y < 1) = true := decide_eq_true h1
    clear hno
    go_enter Tryz.func125, Tryz.ntmps125
    go_wp2
    go_quiet (fail)
    go_wp2
    go_ret
    exact ⟨rfl, drawn_below ((Below.refl _ _).alloc (Nat.le_refl _) _) _⟩
  · have hd1 : decide (y < 1) = false := decide_eq_false h1
    by_cases h2 : x < 0
    · have hd2 : decide (x < 0) = true := decide_eq_true h2
      clear hno
      go_enter Tryz.func125, Tryz.ntmps125
      go_wp2
      go_quiet (fail)
      go_wp2
      go_ret
      exact ⟨rfl, drawn_below ((Below.refl _ _).alloc (Nat.le_refl _) _) _⟩
    · have hd2 : decide (x < 0) = false := decide_eq_false h2
      have h3 : (fl.length : Int) - y < x := by omega
      have hd3 : decide ((fl.length : Int) - y < x) = true := decide_eq_true h3
      have hy3 : 1 ≤ y := by omega
      have hx3 : 0 ≤ x := by omega
      have hwr : IntKind.i64.wrap ((fl.length : Int) - y) = (fl.length : Int) - y := by rw [IntKind.wrap_i64]; omega
      clear hno
      go_enter Tryz.func125, Tryz.ntmps125
      go_wp2_with fail
      go_quiet ((go_at_call 47; exact Calls.quiet_of_same ((slen_any ((H.out.alloc _).drewN _)).mono fun e w' h => ⟨h.1, h.2.symm⟩)))
      go_wp2
      go_ret
      exact ⟨rfl, drawn_below ((Below.refl _ _).alloc (Nat.le_refl _) _) _⟩
theorem run_cut2_flags (A : Option Addr) (m c i k : Nat) (hk : i + k ≤ m) (hc : m ≤ c) (w : World) : (Instr.slice 30 (.slice A m c) (some (.int .i64 i)) (some (.int .i64 ((i : Int) + (k : Int)))) none).run Tryz.prog w = .ok (.slice (if c = i then A else A.map (·.add (i * 1))) k (c - i)) w := by
  have hsz : ∀ w, (sizeOf (Tryz.prog.elem 30)).run Tryz.prog w = .ok 1 w := fun w => by kernel_rfl
  rw [run_slice_lh w 30 A m c (by kernel_rfl) .i64 .i64 i ((i : Int) + (k : Int)) (by omega) (by omega) (by omega), hsz]
  simp only [Result.andThen, sliced, Int.toNat_natCast]
  rw [show ((i : Int) + (k : Int)).toNat - i = k by omega]
set_option maxHeartbeats 1000000 in
theorem sall_in {w : World} {g : Nat} {A : Option Addr} {c : Nat} {left : Int} (fl : List Bool) (i k : Nat) (b : Bool) (hk : 1 ≤ k) (hik : i + k ≤ fl.length) (hc : fl.length ≤ c) (hl : fl.length ≤ 1000000000)
    (h : Blk w g 134 #[.slice A fl.length c, .int .i64 left]) {B : Nat} (hB : B ≤ w.heap.size) (hR : Reads w B 1 A fl.length (flagsS fl)) :
    Calls Tryz.prog 125 #[.pointer (some ⟨g, 0, none⟩), .agg #[.int .i64 (i : Int), .int .i64 (k : Int)], .bool b] w fun e w' => ∃ r : Bool, e = .returned (.bool r) ∧ Below w.heap.size w w' ∧ (r = true ↔ ∀ z ∈ (fl.drop i).take k, z = b) := by
  have H := Lib.hid h
  have hcut := (hR.cut (k := i) (by omega) hc).take (k := k) (by omega)
  have hd : ((fl.drop i).take k).length = k := by rw [List.length_take, List.length_drop]; omega
  rw [show ((flagsS fl).drop (i * 1)).take k = flagsS ((fl.drop i).take k) from by rw [Nat.mul_one, flagsS, flagsS, List.map_take, List.map_drop]] at hcut
  have hsl := run_cut2_flags A fl.length c i k hik hc
  generalize hAc : (if c = i then A else A.map (·.add (i * 1))) = Ac at *
  generalize (fl.drop i).take k = l at *
  have HC := Lib.hid (fun w' (hw : Below B w w') => (show Calls Tryz.prog 142 #[.slice Ac k (c - i), .bool (!b)] w' (fun e w'' => e = .returned (.bool (decide ((!b) ∈ l))) ∧ w'' = w') from by
    have h0 := contains_any Ac (c - i) B l (!b) w' (by rw [hd]; exact hcut.below hw) (by omega)
    rw [hd] at h0
    refine h0.mono ?_
    rintro e w'' ⟨r, rfl, rfl, hr⟩
    refine ⟨?_, rfl⟩
    have : r = decide ((!b) ∈ l) := by rw [Bool.eq_iff_iff, decide_eq_true_eq]; exact hr
    rw [this]))
  clear h hR hAc hcut hd
  have hd1 : decide ((k : Int) < 1) = false := decide_eq_false (by omega)
  have hd2 : decide ((i : Int) < 0) = false := decide_eq_false (by omega)
  have hd3 : decide ((fl.length : Int) - (k : Int) < (i : Int)) = false := decide_eq_false (by omega)
  have hwr : IntKind.i64.wrap ((fl.length : Int) - (k : Int)) = (fl.length : Int) - (k : Int) := by rw [IntKind.wrap_i64]; omega
  have hwr2 : IntKind.i64.wrap ((i : Int) + (k : Int)) = (i : Int) + (k : Int) := by rw [IntKind.wrap_i64]; omega
  have q0 : ∀ o, (w.alloc o).cell? ⟨g, 0, none⟩ = some (.slice A fl.length c) := fun o => (H.out.alloc o).cell 0
  go_enter Tryz.func125, Tryz.ntmps125
  go_wp2_with fail
  go_quiet ((go_at_call 47; exact Calls.quiet_of_same ((slen_any ((H.out.alloc _).drewN _)).mono fun e w' h => ⟨h.1, h.2.symm⟩)))
  have hbw : ∀ o n, Below B w ((w.alloc o).drewN n) := fun o n => drawn_below ((Below.refl _ _).alloc hB _) _
  go_wp2_with fail
  go_quiet ((go_at_call 142; exact (HC.out _ (hbw _ _)).mono (fun e w' h => ⟨h.1, _, h.2⟩)))
  go_wp2
  go_ret
  refine ⟨_, rfl, drawn_below (drawn_below ((Below.refl _ _).alloc (Nat.le_refl _) _) _) _, ?_⟩
  simp only [Bool.not_eq_true', decide_eq_false_iff_not]
  refine ⟨fun h z hz => ?_, fun h hm => ?_⟩
  · cases z <;> cases b <;> simp_all
  · have := h _ hm
    cases b <;> simp at this
end Go.Proofs.YtfbpfgbmlbkffaaGreat

/-
  Spaces, the plain part: the holes of a row of flags; what is chosen of holes for so many blocks; a row with extents turned. No condition; nothing of the program is named.
-/
namespace Go.Proofs.YtfbpfgbmlbkffaaGreat
set_option linter.unusedSimpArgs false
set_option linter.unusedVariables false
/-! ### the holes -/
/-- the first hole is longer by one ahead, or there is a new one -/
def grow (i : Nat) : List Bool → List (Nat × Nat) → List (Nat × Nat)
  | true :: _, (_, n) :: r => (i, n + 1) :: r
  | _, h => (i, 1) :: h
/-- the holes of a row whose first flag has number i -/
def hol : Nat → List Bool → List (Nat × Nat)
  | _, [] => []
  | i, false :: l => hol (i + 1) l
  | i, true :: l => grow i l (hol (i + 1) l)
theorem hol_true (i : Nat) (l : List Bool) : hol i (true :: l) = grow i l (hol (i + 1) l) := rfl
theorem hol_false (i : Nat) (l : List Bool) : hol i (false :: l) = hol (i + 1) l := rfl
theorem run_split (l : List Bool) : l = List.replicate (runOf l) true ++ l.drop (runOf l) ∧ (l.drop (runOf l) = [] ∨ ∃ r, l.drop (runOf l) = false :: r) := by
  induction l with
  | nil => simp [runOf]
  | cons b l ih =>
    cases b
    · simp [runOf]
    · have e : runOf (true :: l) = runOf l + 1 := by simp [runOf]
      rw [e]
      simp only [List.replicate_succ, List.drop_succ_cons, List.cons_append, List.cons.injEq, true_and]
      exact ih
theorem run_ind {P : List Bool → Prop} (h0 : P []) (hf : ∀ l, P l → P (false :: l)) (ha : ∀ n, P (List.replicate (n + 1) true)) (hr : ∀ n l, P l → P (List.replicate (n + 1) true ++ false :: l)) : ∀ l, P l := by
  intro l
  induction hn : l.length using Nat.strongRecOn generalizing l with
  | _ n ih =>
    obtain ⟨h1, h2⟩ := run_split l
    have ha' := fun k (hk : 0 < k) => (show P (List.replicate k true) from by obtain ⟨m, rfl⟩ : ∃ m, k = m + 1 := ⟨k - 1, by omega⟩; exact ha m)
    have hr' := fun k (hk : 0 < k) r (h : P r) => (show P (List.replicate k true ++ false :: r) from by obtain ⟨m, rfl⟩ : ∃ m, k = m + 1 := ⟨k - 1, by omega⟩; exact hr m r h)
    by_cases hz : runOf l = 0
    · rw [hz] at h1 h2
      simp at h1 h2
      rcases h2 with h2 | ⟨r, h2⟩
      · subst h2; exact h0
      · subst h2
        exact hf _ (ih r.length (by simp at hn; omega) r rfl)
    · rcases h2 with h2 | ⟨r, h2⟩
      · rw [h2, List.append_nil] at h1
        rw [h1]
        exact ha' _ (by omega)
      · rw [h2] at h1
        have hl : l.length = runOf l + (r.length + 1) := by
          have := congrArg List.length h1
          simpa using this
        rw [h1]
        exact hr' _ (by omega) r (ih r.length (by omega) r rfl)
theorem hol_rep (n i : Nat) : hol i (List.replicate (n + 1) true) = [(i, n + 1)] := by
  induction n generalizing i with
  | zero => rfl
  | succ n ih =>
    rw [List.replicate_succ]
    have e : List.replicate (n + 1) true = true :: List.replicate n true := List.replicate_succ
    have h := ih (i + 1)
    rw [e] at h ⊢
    rw [hol_true i, h]
    rfl
theorem hol_run (n i : Nat) (l : List Bool) : hol i (List.replicate (n + 1) true ++ false :: l) = (i, n + 1) :: hol (i + n + 2) l := by
  induction n generalizing i with
  | zero => rfl
  | succ n ih =>
    rw [List.replicate_succ, List.cons_append]
    have e : List.replicate (n + 1) true ++ false :: l = true :: (List.replicate n true ++ false :: l) := by rw [List.replicate_succ, List.cons_append]
    have h := ih (i + 1)
    rw [e] at h ⊢
    rw [hol_true i, h, show i + 1 + n + 2 = i + (n + 1) + 2 by omega]
    rfl
theorem hol_reps (n i : Nat) (l : List Bool) : hol i (List.replicate n false ++ l) = hol (i + n) l := by
  induction n generalizing i with
  | zero => simp
  | succ n ih => rw [List.replicate_succ, List.cons_append]; simp only [hol]; rw [ih, show i + 1 + n = i + (n + 1) by omega]
theorem run_rep (n : Nat) : runOf (List.replicate n true) = n := by
  induction n with
  | zero => simp [runOf]
  | succ n ih => rw [List.replicate_succ]; simp [runOf] at ih ⊢
theorem run_rep2 (n : Nat) (l : List Bool) : runOf (List.replicate n true ++ false :: l) = n := by
  induction n with
  | zero => simp [runOf]
  | succ n ih => rw [List.replicate_succ]; simp [runOf] at ih ⊢
theorem hol_step0 (l : List Bool) (i : Nat) (h : runOf l = 0) : hol i l = hol (i + 1) (l.drop 1) := by
  cases l with
  | nil => rfl
  | cons b l =>
    cases b
    · rfl
    · simp [runOf] at h
theorem hol_step (l : List Bool) (i : Nat) (h : 0 < runOf l) : hol i l = (i, runOf l) :: hol (i + runOf l + 1) (l.drop (runOf l + 1)) := by
  revert h i
  refine run_ind (P := fun l => ∀ i, 0 < runOf l → hol i l = (i, runOf l) :: hol (i + runOf l + 1) (l.drop (runOf l + 1))) ?_ ?_ ?_ ?_ l
  · intro i h; simp [runOf] at h
  · intro l _ i h; simp [runOf] at h
  · intro n i _
    rw [run_rep, hol_rep, List.drop_of_length_le (by simp)]
    rfl
  · intro n l _ i _
    rw [run_rep2, hol_run]
    have : List.drop (n + 1 + 1) (List.replicate (n + 1) true ++ false :: l) = l := by
      rw [List.drop_append, List.drop_of_length_le (by simp)]; simp
    rw [this]; rfl
theorem hol_snoc_false (l : List Bool) (i : Nat) : hol i (l ++ [false]) = hol i l := by
  induction l generalizing i with
  | nil => rfl
  | cons b l ih =>
    have h := ih (i + 1)
    cases b
    · exact h
    · rw [List.cons_append, hol_true, hol_true, h]
      cases l with
      | nil => rfl
      | cons c l =>
        cases c
        · rfl
        · generalize hol (i + 1) (true :: l) = z
          cases z <;> rfl
theorem hol_ne_nil (l : List Bool) (i : Nat) : hol i (true :: l) ≠ [] := by
  rw [hol_true]
  unfold grow
  split <;> simp
theorem hol_snoc_new (l : List Bool) (i : Nat) (h : l.getLast? ≠ some true) : hol i (l ++ [true]) = hol i l ++ [(i + l.length, 1)] := by
  induction l generalizing i with
  | nil => rfl
  | cons b l ih =>
    cases l with
    | nil =>
      cases b
      · rfl
      · simp at h
    | cons c l =>
      have h2 := ih (i + 1) (by simpa using h)
      rw [show i + 1 + (c :: l).length = i + (b :: c :: l).length by simp; omega] at h2
      cases b
      · exact h2
      · rw [List.cons_append, hol_true, hol_true, h2]
        cases c
        · rfl
        · cases he : hol (i + 1) (true :: l) with
          | nil => exact absurd he (hol_ne_nil _ _)
          | cons p r => rfl
theorem hol_snoc_old (l : List Bool) (i : Nat) (h : l.getLast? = some true) : ∃ r x y, hol i l = r ++ [(x, y)] ∧ hol i (l ++ [true]) = r ++ [(x, y + 1)] := by
  induction l generalizing i with
  | nil => simp at h
  | cons b l ih =>
    cases l with
    | nil =>
      simp at h
      subst h
      exact ⟨[], i, 1, rfl, rfl⟩
    | cons c l =>
      obtain ⟨r, x, y, h1, h2⟩ := ih (i + 1) (by simpa using h)
      cases b
      · exact ⟨r, x, y, h1, h2⟩
      · rw [List.cons_append, hol_true, hol_true, h1, h2]
        cases c
        · exact ⟨(i, 1) :: r, x, y, rfl, rfl⟩
        · cases r with
          | nil => exact ⟨[], i, y + 1, rfl, rfl⟩
          | cons p r => exact ⟨(i, p.2 + 1) :: r, x, y, rfl, rfl⟩
/-! ### turned -/
/-- a row with y flags from x on made b -/
def setR (l : List Bool) (x y : Nat) (b : Bool) : List Bool := l.take x ++ List.replicate y b ++ l.drop (x + y)
theorem setR_len {l : List Bool} {x y : Nat} (h : x + y ≤ l.length) (b : Bool) : (setR l x y b).length = l.length := by simp [setR]; omega
theorem setR_at {l : List Bool} {x y : Nat} (h : x + y ≤ l.length) (b : Bool) (j : Nat) : (setR l x y b)[j]? = if x ≤ j ∧ j < x + y then some b else l[j]? := by
  have h1 : (l.take x).length = x := by simp; omega
  rw [setR, List.append_assoc, List.getElem?_append, h1]
  by_cases ha : j < x
  · rw [if_pos ha, if_neg (by omega), List.getElem?_take, if_pos ha]
  · rw [if_neg ha, List.getElem?_append, List.length_replicate]
    by_cases hb : j - x < y
    · rw [if_pos hb, if_pos (by omega), List.getElem?_replicate, if_pos hb]
    · rw [if_neg hb, if_neg (by omega), List.getElem?_drop]; congr 1; omega
theorem setR_zero (l : List Bool) (x : Nat) (b : Bool) : setR l x 0 b = l := by simp [setR]
theorem setR_succ {l : List Bool} {x y : Nat} (h : x + y < l.length) (b : Bool) : (setR l x y b).set (x + y) b = setR l x (y + 1) b := by
  apply List.ext_getElem?
  intro j
  rw [List.getElem?_set, setR_at (by omega), setR_at (by omega), setR_len (by omega)]
  by_cases hj : x + y = j
  · subst hj; rw [if_pos rfl, if_pos h, if_pos (by omega)]
  · rw [if_neg hj]
    by_cases hk : x ≤ j ∧ j < x + y
    · rw [if_pos hk, if_pos (by omega)]
    · rw [if_neg hk, if_neg (by omega)]
/-- y flags from x on are there, and are b -/
def AllR (l : List Bool) (x y : Nat) (b : Bool) : Prop := x + y ≤ l.length ∧ ∀ j, x ≤ j → j < x + y → l[j]? = some b
theorem AllR.same {l : List Bool} {x y : Nat} {b : Bool} (h : AllR l x y b) : l = setR l x y b := by
  apply List.ext_getElem?
  intro j
  rw [setR_at h.1]
  by_cases hk : x ≤ j ∧ j < x + y
  · rw [if_pos hk, h.2 j hk.1 hk.2]
  · rw [if_neg hk]
theorem setR_setR {l : List Bool} {x y : Nat} (h : x + y ≤ l.length) (b c : Bool) : setR (setR l x y b) x y c = setR l x y c := by
  apply List.ext_getElem?
  intro j
  rw [setR_at (by rw [setR_len h]; exact h), setR_at h, setR_at h]
  by_cases hk : x ≤ j ∧ j < x + y
  · rw [if_pos hk, if_pos hk]
  · rw [if_neg hk, if_neg hk, if_neg hk]
def cnt (l : List Bool) : Nat := l.countP id
theorem cnt_le (l : List Bool) : cnt l ≤ l.length := List.countP_le_length
theorem cnt_setR {l : List Bool} {x y : Nat} (h : x + y ≤ l.length) (b : Bool) : cnt (setR l x y b) = cnt (l.take x) + (if b then y else 0) + cnt (l.drop (x + y)) := by
  have : ∀ n : Nat, cnt (List.replicate n b) = if b then n else 0 := by
    intro n
    cases b <;> simp [cnt, List.countP_replicate]
  simp only [setR, cnt, List.countP_append] at this ⊢
  rw [this]
theorem cnt_turn {l : List Bool} {x y : Nat} {b : Bool} (h : AllR l x y (!b)) : (cnt (setR l x y b) : Int) = cnt l + (if b then (y : Int) else -(y : Int)) := by
  have h1 := cnt_setR h.1 b
  have h2 := cnt_setR h.1 (!b)
  rw [← h.same] at h2
  cases b <;> simp at h1 h2 ⊢ <;> omega
theorem setR_app (l1 l2 : List Bool) (x y : Nat) (b : Bool) : setR (l1 ++ l2) (l1.length + x) y b = l1 ++ setR l2 x y b := by
  rw [setR, setR, List.take_length_add_append, Nat.add_assoc, List.drop_length_add_append, List.append_assoc, List.append_assoc, List.append_assoc]
/-! ### a hole's own -/
theorem hol_mem (l : List Bool) : ∀ i x y, (x, y) ∈ hol i l → i ≤ x ∧ 1 ≤ y ∧ x + y ≤ i + l.length ∧ ∀ j, x ≤ j → j < x + y → l[j - i]? = some true := by
  refine run_ind (P := fun l => ∀ i x y, (x, y) ∈ hol i l → i ≤ x ∧ 1 ≤ y ∧ x + y ≤ i + l.length ∧ ∀ j, x ≤ j → j < x + y → l[j - i]? = some true) ?_ ?_ ?_ ?_ l
  · intro i x y h; simp [hol] at h
  · intro l ih i x y h
    rw [hol] at h
    obtain ⟨h1, h2, h3, h4⟩ := ih _ _ _ h
    refine ⟨by omega, h2, by simp; omega, fun j hj hk => ?_⟩
    have := h4 j hj hk
    rw [show j - i = (j - (i + 1)) + 1 by omega, List.getElem?_cons_succ]
    exact this
  · intro n i x y h
    rw [hol_rep] at h
    simp at h
    obtain ⟨rfl, rfl⟩ := h
    refine ⟨by omega, by omega, by simp, fun j hj hk => ?_⟩
    rw [List.getElem?_replicate, if_pos (by omega)]
  · intro n l ih i x y h
    rw [hol_run] at h
    simp only [List.mem_cons, Prod.mk.injEq] at h
    rcases h with ⟨rfl, rfl⟩ | h
    · refine ⟨by omega, by omega, by simp, fun j hj hk => ?_⟩
      rw [List.getElem?_append_left (by simp; omega), List.getElem?_replicate, if_pos (by omega)]
    · obtain ⟨h1, h2, h3, h4⟩ := ih _ _ _ h
      refine ⟨by omega, h2, by simp; omega, fun j hj hk => ?_⟩
      rw [List.getElem?_append_right (by simp; omega), List.length_replicate, show j - i - (n + 1) = (j - (i + n + 2)) + 1 by omega, List.getElem?_cons_succ]
      exact h4 j hj hk
theorem hol_rises (l : List Bool) : ∀ i, (hol i l).Pairwise (fun p q => p.1 + p.2 < q.1) := by
  refine run_ind (P := fun l => ∀ i, (hol i l).Pairwise (fun p q => p.1 + p.2 < q.1)) ?_ ?_ ?_ ?_ l
  · intro i; simp [hol]
  · intro l ih i; rw [hol]; exact ih _
  · intro n i; rw [hol_rep]; simp
  · intro n l ih i
    rw [hol_run]
    refine List.pairwise_cons.2 ⟨fun q hq => ?_, ih _⟩
    obtain ⟨a, b⟩ := q
    have := (hol_mem l _ _ _ hq).1
    simp; omega
def lens (L : List (Nat × Nat)) : Nat := (L.map (·.2)).sum
theorem hol_lens (l : List Bool) : ∀ i, lens (hol i l) = cnt l := by
  refine run_ind (P := fun l => ∀ i, lens (hol i l) = cnt l) ?_ ?_ ?_ ?_ l
  · intro i; rfl
  · intro l ih i; rw [hol, ih]; simp [cnt]
  · intro n i; rw [hol_rep]; simp [lens, cnt, List.countP_replicate]
  · intro n l ih i
    rw [hol_run]
    have := ih (i + n + 2)
    simp only [lens, cnt, List.map_cons, List.sum_cons, List.countP_append, List.countP_replicate, List.countP_cons] at this ⊢
    simp only [id] at this ⊢
    rw [this]
    simp
theorem hol_erase (l : List Bool) : ∀ i x y, (x, y) ∈ hol i l → hol i (setR l (x - i) y false) = (hol i l).erase (x, y) := by
  refine run_ind (P := fun l => ∀ i x y, (x, y) ∈ hol i l → hol i (setR l (x - i) y false) = (hol i l).erase (x, y)) ?_ ?_ ?_ ?_ l
  · intro i x y h; simp [hol] at h
  · intro l ih i x y h
    rw [hol] at h
    have hx := (hol_mem _ _ _ _ h).1
    have e := setR_app [false] l (x - (i + 1)) y false
    rw [show [false].length + (x - (i + 1)) = x - i by simp; omega] at e
    simp only [List.singleton_append] at e
    rw [e, hol, ih _ _ _ h, hol]
  · intro n i x y h
    rw [hol_rep] at h ⊢
    simp at h
    obtain ⟨rfl, rfl⟩ := h
    have : setR (List.replicate (n + 1) true) (x - x) (n + 1) false = List.replicate (n + 1) false ++ [] := by simp [setR]
    rw [this, hol_reps]
    simp [hol]
  · intro n l ih i x y h
    rw [hol_run] at h ⊢
    simp only [List.mem_cons, Prod.mk.injEq] at h
    rcases h with ⟨rfl, rfl⟩ | h
    · have : setR (List.replicate (n + 1) true ++ false :: l) (x - x) (n + 1) false = List.replicate (n + 2) false ++ l := by
        have e : List.drop (n + 1) (List.replicate (n + 1) true ++ false :: l) = false :: l := by
          rw [List.drop_append, List.drop_of_length_le (by simp)]; simp
        simp only [setR, Nat.sub_self, List.take_zero, List.nil_append, Nat.zero_add]
        rw [e, List.replicate_succ' (n := n + 1), List.append_assoc]
        rfl
      rw [this, hol_reps]
      simp
      rfl
    · have hx := (hol_mem _ _ _ _ h).1
      have e := setR_app (List.replicate (n + 1) true ++ [false]) l (x - (i + n + 2)) y false
      rw [show (List.replicate (n + 1) true ++ [false]).length + (x - (i + n + 2)) = x - i by simp; omega] at e
      simp only [List.append_assoc, List.singleton_append] at e
      rw [e, hol_run, ih _ _ _ h, List.erase_cons_tail]
      simp; omega
end Go.Proofs.YtfbpfgbmlbkffaaGreat

/-
  Spaces, the plain part: what is chosen of holes for so many blocks; a row with many extents turned. No condition; nothing of the program is named.
-/
namespace Go.Proofs.YtfbpfgbmlbkffaaGreat
set_option linter.unusedSimpArgs false
set_option linter.unusedVariables false
/-! ### the choice -/
/-- e comes ahead of q where the longest one is asked for -/
def Longer (e q : Nat × Nat) : Prop := q.2 < e.2 ∨ (e.2 = q.2 ∧ e.1 < q.1)
/-- e comes ahead of q where the shortest one is asked for -/
def Shorter (e q : Nat × Nat) : Prop := e.2 < q.2 ∨ (e.2 = q.2 ∧ e.1 < q.1)
def Top (L : List (Nat × Nat)) (e : Nat × Nat) : Prop := e ∈ L ∧ ∀ q, q ∈ L → q = e ∨ Longer e q
def Fit (L : List (Nat × Nat)) (n : Nat) (e : Nat × Nat) : Prop := e ∈ L ∧ n ≤ e.2 ∧ ∀ q, q ∈ L → n ≤ q.2 → q = e ∨ Shorter e q
/-- for n blocks these extents are chosen of these holes -/
inductive Chosen : List (Nat × Nat) → Nat → List (Nat × Nat) → Prop
  | none (L : List (Nat × Nat)) : Chosen L 0 []
  | fit {L : List (Nat × Nat)} {n : Nat} {e : Nat × Nat} : 0 < n → Fit L n e → Chosen L n [(e.1, n)]
  | long {L : List (Nat × Nat)} {n : Nat} {e : Nat × Nat} {r : List (Nat × Nat)} : Top L e → e.2 < n → Chosen (L.erase e) (n - e.2) r → Chosen L n (e :: r)
theorem Top.one {L : List (Nat × Nat)} {e e' : Nat × Nat} (h : Top L e) (h' : Top L e') : e = e' := by
  rcases h.2 _ h'.1 with h1 | h1
  · exact h1.symm
  · rcases h'.2 _ h.1 with h2 | h2
    · exact h2
    · simp only [Longer] at h1 h2; omega
theorem Fit.one {L : List (Nat × Nat)} {n : Nat} {e e' : Nat × Nat} (h : Fit L n e) (h' : Fit L n e') : e = e' := by
  rcases h.2.2 _ h'.1 h'.2.1 with h1 | h1
  · exact h1.symm
  · rcases h'.2.2 _ h.1 h.2.1 with h2 | h2
    · exact h2
    · simp only [Shorter] at h1 h2; omega
theorem Top.no_fit {L : List (Nat × Nat)} {n : Nat} {e q : Nat × Nat} (h : Top L e) (hn : e.2 < n) (hq : Fit L n q) : False := by
  rcases h.2 _ hq.1 with h1 | h1
  · subst h1; have := hq.2.1; omega
  · have := hq.2.1; simp only [Longer] at h1; omega
theorem Chosen.zero {L r : List (Nat × Nat)} (h : Chosen L 0 r) : r = [] := by
  cases h with
  | none => rfl
  | fit h _ => omega
  | long _ h _ => omega
theorem Chosen.one {L a b : List (Nat × Nat)} {n : Nat} (h : Chosen L n a) (h' : Chosen L n b) : a = b := by
  induction h generalizing b with
  | none L => exact h'.zero.symm
  | fit h0 hf =>
    cases h' with
    | none => omega
    | fit _ hf' => rw [hf.one hf']
    | long ht hn _ => exact (ht.no_fit hn hf).elim
  | long ht hn _ ih =>
    cases h' with
    | none => omega
    | fit _ hf' => exact (ht.no_fit hn hf').elim
    | long ht' hn' hr =>
      obtain rfl := ht.one ht'
      rw [ih hr]
theorem Top.perm {L L' : List (Nat × Nat)} {e : Nat × Nat} (hp : L.Perm L') (h : Top L e) : Top L' e := ⟨hp.mem_iff.1 h.1, fun q hq => h.2 q (hp.mem_iff.2 hq)⟩
theorem Fit.perm {L L' : List (Nat × Nat)} {n : Nat} {e : Nat × Nat} (hp : L.Perm L') (h : Fit L n e) : Fit L' n e := ⟨hp.mem_iff.1 h.1, h.2.1, fun q hq => h.2.2 q (hp.mem_iff.2 hq)⟩
theorem Chosen.perm {L L' a : List (Nat × Nat)} {n : Nat} (h : Chosen L n a) (hp : L.Perm L') : Chosen L' n a := by
  induction h generalizing L' with
  | none L => exact .none _
  | fit h0 hf => exact .fit h0 (hf.perm hp)
  | long ht hn _ ih => exact .long (ht.perm hp) hn (ih (hp.erase _))
/-! ### turned: many -/
def setA (l : List Bool) (es : List (Nat × Nat)) (b : Bool) : List Bool := es.foldl (fun l e => setR l e.1 e.2 b) l
/-- each of the extents is there at its turn, and is b's other -/
def OkA : List Bool → List (Nat × Nat) → Bool → Prop
  | _, [], _ => True
  | l, e :: es, b => AllR l e.1 e.2 (!b) ∧ OkA (setR l e.1 e.2 b) es b
theorem setA_cons (l : List Bool) (e : Nat × Nat) (es : List (Nat × Nat)) (b : Bool) : setA l (e :: es) b = setA (setR l e.1 e.2 b) es b := rfl
theorem setA_app (l : List Bool) (es fs : List (Nat × Nat)) (b : Bool) : setA l (es ++ fs) b = setA (setA l es b) fs b := by simp [setA]
theorem OkA.app {es fs : List (Nat × Nat)} {b : Bool} : ∀ {l : List Bool}, OkA l (es ++ fs) b ↔ OkA l es b ∧ OkA (setA l es b) fs b := by
  induction es with
  | nil => intro l; simp [OkA, setA]
  | cons e es ih => intro l; simp only [List.cons_append, OkA, setA_cons, ih, and_assoc]
theorem OkA.len {es : List (Nat × Nat)} {b : Bool} : ∀ {l : List Bool}, OkA l es b → (setA l es b).length = l.length := by
  induction es with
  | nil => intro l _; rfl
  | cons e es ih => intro l h; rw [setA_cons, ih h.2, setR_len h.1.1]
def Cov (es : List (Nat × Nat)) (j : Nat) : Prop := ∃ e ∈ es, e.1 ≤ j ∧ j < e.1 + e.2
theorem Cov.cons {e : Nat × Nat} {es : List (Nat × Nat)} {j : Nat} : Cov (e :: es) j ↔ (e.1 ≤ j ∧ j < e.1 + e.2) ∨ Cov es j := by
  simp [Cov]
theorem OkA.at_ {es : List (Nat × Nat)} {b : Bool} : ∀ {l : List Bool}, OkA l es b → ∀ j, (Cov es j → (setA l es b)[j]? = some b ∧ l[j]? = some (!b)) ∧ (¬ Cov es j → (setA l es b)[j]? = l[j]?) := by
  induction es with
  | nil => intro l _ j; exact ⟨fun h => by simp [Cov] at h, fun _ => rfl⟩
  | cons e es ih =>
    intro l h j
    have h2 := ih h.2 j
    rw [setR_at h.1.1] at h2
    rw [setA_cons, Cov.cons]
    by_cases hc : Cov es j
    · have h3 := h2.1 hc
      by_cases he : e.1 ≤ j ∧ j < e.1 + e.2
      · rw [if_pos he] at h3
        cases b <;> simp at h3
      · rw [if_neg he] at h3
        exact ⟨fun _ => h3, fun hn => absurd (.inr hc) hn⟩
    · have h3 := h2.2 hc
      rw [h3]
      by_cases he : e.1 ≤ j ∧ j < e.1 + e.2
      · rw [if_pos he]
        exact ⟨fun _ => ⟨rfl, h.1.2 j he.1 he.2⟩, fun hn => absurd (.inl he) hn⟩
      · rw [if_neg he]
        exact ⟨fun hh => (hh.elim (fun h => absurd h he) (fun h => absurd h hc)), fun _ => rfl⟩
theorem OkA.within {es : List (Nat × Nat)} {b : Bool} : ∀ {l : List Bool}, OkA l es b → ∀ e ∈ es, e.1 + e.2 ≤ l.length := by
  induction es with
  | nil => intro l _ e he; simp at he
  | cons f es ih =>
    intro l h e he
    rcases List.mem_cons.1 he with rfl | he
    · exact h.1.1
    · have := ih h.2 e he
      rw [setR_len h.1.1] at this
      exact this
theorem OkA.cnt {es : List (Nat × Nat)} {b : Bool} : ∀ {l : List Bool}, OkA l es b → (cnt (setA l es b) : Int) = cnt l + (if b then (lens es : Int) else -(lens es : Int)) := by
  induction es with
  | nil => intro l _; simp [setA, lens]
  | cons e es ih =>
    intro l h
    have h1 := cnt_turn h.1
    have h2 := ih h.2
    rw [setA_cons, h2, h1]
    cases b <;> simp [lens] <;> omega
/-- turned back, it is as it was -/
theorem OkA.back {es : List (Nat × Nat)} {b : Bool} {l : List Bool} (h : OkA l es b) : OkA (setA l es b) es (!b) ∧ setA (setA l es b) es (!b) = l := by
  induction es generalizing l with
  | nil => exact ⟨trivial, rfl⟩
  | cons e es ih =>
    have hall := h.at_
    obtain ⟨i1, i2⟩ := ih h.2
    have hlen := h.2.len
    rw [setR_len h.1.1] at hlen
    have hA : AllR (setA l (e :: es) b) e.1 e.2 (!!b) := by
      refine ⟨by rw [h.len]; exact h.1.1, fun j hj hk => ?_⟩
      rw [((hall j).1 (Cov.cons.2 (.inl ⟨hj, hk⟩))).1, Bool.not_not]
    -- turning e back first is as turning it back last
    have hcom : ∀ j, Cov es j → ¬ (e.1 ≤ j ∧ j < e.1 + e.2) := by
      intro j hc he
      have := ((h.2.at_ j).1 hc).2
      rw [setR_at h.1.1, if_pos he] at this
      cases b <;> simp at this
    have key : ∀ (fs : List (Nat × Nat)) (m : List Bool), (∀ f ∈ fs, ∀ j, f.1 ≤ j → j < f.1 + f.2 → ¬ (e.1 ≤ j ∧ j < e.1 + e.2)) → e.1 + e.2 ≤ m.length → OkA m fs (!b) → OkA (setR m e.1 e.2 (!b)) fs (!b) ∧ setA (setR m e.1 e.2 (!b)) fs (!b) = setR (setA m fs (!b)) e.1 e.2 (!b) := by
      intro fs
      induction fs with
      | nil => intro m _ _ _; exact ⟨trivial, rfl⟩
      | cons f fs ihf =>
        intro m hd hm ho
        have hf := hd f (List.mem_cons_self ..)
        have hc : setR (setR m e.1 e.2 (!b)) f.1 f.2 (!b) = setR (setR m f.1 f.2 (!b)) e.1 e.2 (!b) := by
          apply List.ext_getElem?
          intro j
          rw [setR_at (by rw [setR_len hm]; exact ho.1.1), setR_at hm, setR_at (by rw [setR_len ho.1.1]; exact hm), setR_at ho.1.1]
          by_cases h1 : f.1 ≤ j ∧ j < f.1 + f.2 <;> by_cases h2 : e.1 ≤ j ∧ j < e.1 + e.2 <;> simp [h1, h2]
        obtain ⟨k1, k2⟩ := ihf (setR m f.1 f.2 (!b)) (fun g hg => hd g (List.mem_cons_of_mem _ hg)) (by rw [setR_len ho.1.1]; exact hm) ho.2
        refine ⟨⟨⟨by rw [setR_len hm]; exact ho.1.1, fun j hj hk => ?_⟩, by rw [hc]; exact k1⟩, by rw [setA_cons, setA_cons, hc]; exact k2⟩
        rw [setR_at hm, if_neg (hf j hj hk)]
        exact ho.1.2 j hj hk
    obtain ⟨k1, k2⟩ := key es (setA (setR l e.1 e.2 b) es b) (fun f hf j hj hk => hcom j ⟨f, hf, hj, hk⟩) (by rw [hlen]; exact h.1.1) i1
    refine ⟨⟨hA, k1⟩, ?_⟩
    rw [setA_cons l, setA_cons _ e, k2, i2, setR_setR h.1.1, ← h.1.same]
/-! ### what is chosen may be turned -/
def Sound (l : List Bool) (L : List (Nat × Nat)) : Prop := L.Nodup ∧ (∀ e ∈ L, AllR l e.1 e.2 true) ∧ ∀ p ∈ L, ∀ q ∈ L, p ≠ q → p.1 + p.2 ≤ q.1 ∨ q.1 + q.2 ≤ p.1
theorem hol_sound (l : List Bool) : Sound l (hol 0 l) := by
  have hr := hol_rises l 0
  refine ⟨hr.imp (fun {p q} h e => by subst e; omega), fun e he => ?_, fun p hp q hq hne => ?_⟩
  · obtain ⟨x, y⟩ := e
    obtain ⟨_, _, h3, h4⟩ := hol_mem l 0 x y he
    exact ⟨by omega, fun j hj hk => h4 j hj hk⟩
  · have : ∀ (L : List (Nat × Nat)), L.Pairwise (fun p q => p.1 + p.2 < q.1) → p ∈ L → q ∈ L → p.1 + p.2 ≤ q.1 ∨ q.1 + q.2 ≤ p.1 := by
      intro L hL
      induction hL with
      | nil => intro h; simp at h
      | cons h _ ih =>
        intro h1 h2
        rcases List.mem_cons.1 h1 with e1 | h1 <;> rcases List.mem_cons.1 h2 with e2 | h2
        · exact absurd (e1.trans e2.symm) hne
        · have := h _ h2; rw [← e1] at this; omega
        · have := h _ h1; rw [← e2] at this; omega
        · exact ih h1 h2
    exact this _ hr hp hq
theorem Chosen.ok {L out : List (Nat × Nat)} {n : Nat} (h : Chosen L n out) : ∀ {l : List Bool}, Sound l L → OkA l out false ∧ lens out = n := by
  induction h with
  | none L => intro l _; exact ⟨trivial, rfl⟩
  | @fit L n e h0 hf =>
    intro l hs
    have := hs.2.1 _ hf.1
    have hn := hf.2.1
    exact ⟨⟨⟨by have := this.1; simp; omega, fun j hj hk => this.2 j hj (by simp at hk; omega)⟩, trivial⟩, by simp [lens]⟩
  | @long L n e r ht hn _ ih =>
    intro l hs
    have he := hs.2.1 _ ht.1
    have hs' : Sound (setR l e.1 e.2 false) (L.erase e) := by
      refine ⟨hs.1.erase _, fun q hq => ?_, fun p hp q hq => hs.2.2 p (List.mem_of_mem_erase hp) q (List.mem_of_mem_erase hq)⟩
      have hq1 := List.mem_of_mem_erase hq
      have hne : e ≠ q := fun h => by subst h; exact (List.Nodup.not_mem_erase hs.1) hq
      have hd := hs.2.2 _ ht.1 _ hq1 hne
      refine ⟨by rw [setR_len he.1]; exact (hs.2.1 _ hq1).1, fun j hj hk => ?_⟩
      rw [setR_at he.1, if_neg (by omega)]
      exact (hs.2.1 _ hq1).2 j hj hk
    obtain ⟨h1, h2⟩ := ih hs'
    exact ⟨⟨he, h1⟩, by simp [lens] at h2 ⊢; omega⟩
theorem Chosen.few {L out : List (Nat × Nat)} {n : Nat} (h : Chosen L n out) : out.length ≤ L.length ∧ ((∃ e ∈ L, n ≤ e.2) → out.length ≤ 1) ∧ (0 < n → 0 < out.length) := by
  induction h with
  | none L => simp
  | fit h0 hf =>
    have := List.length_pos_of_mem hf.1
    simp; omega
  | @long L n e r ht hn _ ih =>
    have := List.length_erase_of_mem ht.1
    have := List.length_pos_of_mem ht.1
    refine ⟨by simp; omega, fun ⟨q, hq, hle⟩ => ?_, fun _ => by simp⟩
    rcases ht.2 q hq with rfl | h1
    · omega
    · simp only [Longer] at h1; omega
end Go.Proofs.YtfbpfgbmlbkffaaGreat

/-
  Spaces: extents are made free, or not. Conditions: a space stands as it is said to; each extent's blocks are the other way round at its turn; the extents lie in no block of the space.
-/
namespace Go.Proofs.YtfbpfgbmlbkffaaGreat
open Go.RowKit Go.BigFrame
set_option linter.unusedSimpArgs false
set_option linter.unusedVariables false
/-- extents, as cells -/
def ext1 (e : Int × Int) : List Value := [.int .i64 e.1, .int .i64 e.2]
def extS (l : List (Int × Int)) : List Value := l.flatMap ext1
def natE (l : List (Nat × Nat)) : List (Int × Int) := l.map fun e => ((e.1 : Int), (e.2 : Int))
theorem ext1_len (e : Int × Int) : (ext1 e).length = 2 := rfl
theorem extS_len (l : List (Int × Int)) : (extS l).length = l.length * 2 := by
  induction l with
  | nil => rfl
  | cons e l ih => simp [extS, ext1] at ih ⊢; omega
theorem extS_at {l : List (Int × Int)} {k : Nat} {e : Int × Int} (h : l[k]? = some e) : (extS l)[k * 2]? = some (.int .i64 e.1) ∧ (extS l)[k * 2 + 1]? = some (.int .i64 e.2) :=
  ⟨by have := flat_at ext1 2 ext1_len l k 0 e h (by omega); simpa [extS, ext1] using this, by have := flat_at ext1 2 ext1_len l k 1 e h (by omega); simpa [extS, ext1] using this⟩
theorem extS_one (l : List (Int × Int)) : ∀ u ∈ extS l, u.oneCell' = true := by
  intro u hu
  obtain ⟨e, _, he⟩ := List.mem_flatMap.1 hu
  simp [ext1] at he
  rcases he with rfl | rfl <;> rfl
/-- the extents behind a slice -/
def ExtR (w : World) (B : Nat) (A : Option Addr) (l : List (Int × Int)) : Prop := Reads w B 2 A l.length (extS l)
theorem ExtR.get {w : World} {B : Nat} {A : Option Addr} {l : List (Int × Int)} (h : ExtR w B A l) {k : Nat} (hk : k < l.length) : ∃ ad e, A = some ad ∧ ad.block < B ∧ l[k]? = some e ∧ w.cell? (ad.add (k * 2)) = some (.int .i64 e.1) ∧ w.cell? ((ad.add (k * 2)).add 1) = some (.int .i64 e.2) := by
  obtain ⟨ad, e, hb, hc⟩ := h.2 (by omega)
  have he := List.getElem?_eq_getElem hk
  obtain ⟨h1, h2⟩ := extS_at he
  exact ⟨ad, _, e, hb, he, hc _ _ h1, by rw [add_of_add]; exact hc _ _ h2⟩
theorem ExtR.only {w w' : World} {B : Nat} {F : List Nat} {A : Option Addr} {l : List (Int × Int)} (h : ExtR w B A l) (ho : Only F w w') (hB : B ≤ w.heap.size) (ha : ∀ ad, A = some ad → ad.block ∉ F) : ExtR w' B A l :=
  ⟨h.1, fun hn => by
    obtain ⟨ad, e, hb, hc⟩ := h.2 hn
    exact ⟨ad, e, hb, fun j u hu => (ho.cell (by rw [block_of_add]; omega) (by rw [block_of_add]; exact ha ad e)).trans (hc j u hu)⟩⟩
theorem run_loadVar_ext (w : World) (p : Addr) (e : Int × Int) (h0 : w.cell? p = some (.int .i64 e.1)) (h1 : w.cell? (p.add 1) = some (.int .i64 e.2)) : (loadVar 81 p).run Tryz.prog w = .ok (.agg #[.int .i64 e.1, .int .i64 e.2]) w := by
  have hc : ∀ j v, (ext1 e)[j]? = some v → w.cell? (p.add j) = some v := fun j v hj => by
    match j, hj with
    | 0, hj => simp [ext1] at hj; subst hj; simpa [Addr.add] using h0
    | 1, hj => simp [ext1] at hj; subst hj; exact h1
  have hl : (loadCells p 2).run Tryz.prog w = .ok (ext1 e).toArray w := run_loadCells_list (P := Tryz.prog) w p (ext1 e) hc
  have hagg : (isAgg 81).run Tryz.prog w = .ok true w := by
    unfold isAgg
    rw [Sem.run_bind, run_underlying Tryz.underlying81 w]
    rfl
  have hi : (Tryz.prog.info? 81).map (·.size) = some 2 := by kernel_rfl
  cases hq : Tryz.prog.info? 81 with
  | none => simp [hq] at hi
  | some i =>
    have hs : i.size = 2 := by simpa [hq] using hi
    simp [loadVar, Sem.run_bind, hagg, sizeOf, typeInfo, hq, hs, hl]
    rfl
theorem wpList_load_ext {ops : Array Oper} {rest : List Oper} {op : Oper} {a : Act} {w : World} {Q : Exit → Act → World → Prop} (hgd : op.guard = none) (x : Operand) (ho : op.op = .load 81 x)
    (p : Addr) (hx : a.eval x = .pointer (some p)) (e : Int × Int) (h0 : w.cell? p = some (.int .i64 e.1)) (h1 : w.cell? (p.add 1) = some (.int .i64 e.2))
    (h : wpList Tryz.prog ops Q rest (a.put op.dst (.agg #[.int .i64 e.1, .int .i64 e.2])) w) : wpList Tryz.prog ops Q (op :: rest) a w :=
  wpList_plain hgd fun _ hK => by
    unfold Oper.wp execOp
    simp only [ho, hx, Instr.loadAt, Instr.sureAddr, Sem.run_bind, Sem.run_pure, Result.andThen_ok, run_loadVar_ext w p e h0 h1]
    exact hK _ _ h
/-- the row of flags of a space, in block r -/
def FRow (w : World) (r : Nat) (A : Option Addr) (fl : List Bool) : Prop := fl = [] ∨ (A = some ⟨r, 0, none⟩ ∧ ∃ cs : Array Value, Blk w r 4 cs ∧ ∀ (j : Nat) (v : Bool), fl[j]? = some v → cs[j]? = some (.bool v))
/-- a space in block g -/
structure SAt (w : World) (g r : Nat) (A : Option Addr) (c : Nat) (fl : List Bool) (left : Int) : Prop where
  blk : Blk w g 134 #[.slice A fl.length c, .int .i64 left]
  cap : fl.length ≤ c
  lim : fl.length ≤ 65536
  row : FRow w r A fl
section
variable {w w' : World} {g r c : Nat} {A : Option Addr} {fl : List Bool} {left : Int}
theorem FRow.of (h : FRow w r A fl) (hk : ∀ t cs, Blk w r t cs → w'.heap[r]? = w.heap[r]?) : FRow w' r A fl := by
  rcases h with h | ⟨h, cs, hb, hc⟩
  · exact .inl h
  · exact .inr ⟨h, cs, hb.of (hk _ _ hb), hc⟩
theorem FRow.reads (h : FRow w r A fl) : Reads w (r + 1) 1 A fl.length (flagsS fl) := by
  rcases h with rfl | ⟨rfl, cs, hb, hc⟩
  · exact ⟨rfl, fun h => by simp at h⟩
  · refine ⟨by simp [flagsS], fun _ => ⟨_, rfl, Nat.lt_succ_self _, fun j u hu => ?_⟩⟩
    rw [add_zero_off, hb.cell]
    simp only [flagsS, List.getElem?_map, Option.map_eq_some_iff] at hu
    obtain ⟨v, hv, rfl⟩ := hu
    exact hc j v hv
theorem FRow.set (h : FRow w r A fl) {j : Nat} (hj : j < fl.length) (b : Bool) : FRow (w.setCell ⟨r, j, none⟩ (.bool b)) r A (fl.set j b) := by
  rcases h with rfl | ⟨h, cs, hb, hc⟩
  · simp at hj
  · refine .inr ⟨h, _, hb.set_ j _, fun k v hv => ?_⟩
    rw [List.getElem?_set] at hv
    have hjc : j < cs.size := by
      have := hc j _ (List.getElem?_eq_getElem hj)
      exact (Array.getElem?_eq_some_iff.1 this).1
    rw [Array.getElem?_setIfInBounds]
    by_cases hk : j = k
    · subst hk
      rw [if_pos rfl, if_pos hj] at hv
      injection hv with hv
      rw [if_pos rfl, if_pos hjc, hv]
    · rw [if_neg hk] at hv
      rw [if_neg hk]
      exact hc k v hv
theorem FRow.cell (h : FRow w r A fl) {j : Nat} (hj : j < fl.length) : A = some ⟨r, 0, none⟩ ∧ (∃ v, w.cell? ⟨r, j, none⟩ = some (.bool v)) ∧ w.frozen? ⟨r, j, none⟩ = false ∧ r < w.heap.size ∧ ∃ cs : Array Value, Blk w r 4 cs := by
  rcases h with rfl | ⟨h, cs, hb, hc⟩
  · simp at hj
  · exact ⟨h, ⟨_, by rw [hb.cell]; exact hc j _ (List.getElem?_eq_getElem hj)⟩, hb.frozen j, hb.lt, cs, hb⟩
theorem SAt.of (h : SAt w g r A c fl left) (hg : w'.heap[g]? = w.heap[g]?) (hr : ∀ t cs, Blk w r t cs → w'.heap[r]? = w.heap[r]?) : SAt w' g r A c fl left := ⟨h.blk.of hg, h.cap, h.lim, h.row.of hr⟩
theorem SAt.below (h : SAt w g r A c fl left) {B : Nat} (hb : Below B w w') (hB : g < B) (hr : r < B) : SAt w' g r A c fl left := h.of (hb.block g hB) (fun _ _ _ => hb.block r hr)
end
set_option maxHeartbeats 1000000 in
theorem sset_any {w : World} {g r c B : Nat} {A : Option Addr} {fl : List Bool} (es : List (Nat × Nat)) (b : Bool) (hok : OkA fl es b) (h : SAt w g r A c fl (cnt fl)) (hgr : g ≠ r) (E : Option Addr) (c' : Nat) (hR : ExtR w B E (natE es)) (hB : B ≤ w.heap.size)
    (hfar : ∀ ad, E = some ad → ad.block ≠ g ∧ ad.block ≠ r) (hle : es.length ≤ 65536) :
    Calls Tryz.prog 124 #[.pointer (some ⟨g, 0, none⟩), .slice E es.length c', .bool b] w fun e w' => e = .returned (.tuple #[]) ∧ Only [g, r] w w' ∧ SAt w' g r A c (setA fl es b) (cnt (setA fl es b)) := by
  have H0 := Lib.hid h
  have HR := Lib.hid hR
  have HF := Lib.hid hfar
  have HO := Lib.hid hok
  have hn : (natE es).length = es.length := by simp [natE]
  have HN := Lib.hid hn
  clear h hR hfar hok hn
  go_enter Tryz.func124, Tryz.ntmps124
  go_wp2
  go_loopw [11] (fun i wr => ∃ k : Nat, k ≤ es.length ∧ i = .int .i64 k ∧ Only [g, r] w wr ∧ SAt wr g r A c (setA fl (es.take k) b) (cnt (setA fl (es.take k) b))) (fun i _ => es.length - (intS i).toNat)
  case atStart => exact ⟨0, by omega, rfl, Only.refl _ _, by simpa [setA] using H0.out⟩
  case round =>
    obtain ⟨k, hk, rfl, ho, hs⟩ := hrel
    obtain ⟨wo, hwo⟩ : ∃ wo, wo = wr := ⟨_, rfl⟩
    subst hwo
    have hRr : ExtR wo B E (natE es) := HR.out.only ho hB (fun ad h => by have := HF.out ad h; simp; omega)
    have HS := Lib.hid hs
    have HOn := Lib.hid ho
    clear hs ho
    by_cases hlt : k < es.length
    · obtain ⟨ad, e, rfl, hab, he, hc0, hc1⟩ := hRr.get (k := k) (by rw [HN.out]; exact hlt)
      clear hRr
      obtain ⟨⟨x, y⟩, hek⟩ : ∃ e, es[k]? = some e := ⟨_, List.getElem?_eq_getElem hlt⟩
      obtain rfl : e = ((x : Int), (y : Int)) := by
        simp only [natE, List.getElem?_map, hek, Option.map_some, Option.some.injEq] at he
        exact he.symm
      have htk := List.take_add_one (l := es) (i := k)
      rw [hek] at htk
      have hall : AllR (setA fl (es.take k) b) x y (!b) := by
        have h := HO.out
        rw [← List.take_append_drop (k + 1) es, htk, OkA.app, OkA.app] at h
        exact h.1.2.1
      have hset : setA fl (es.take (k + 1)) b = setR (setA fl (es.take k) b) x y b := by rw [htk, setA_app]; rfl
      have HT := Lib.hid hset
      have hlim := HS.out.lim
      clear htk he hset hek
      generalize setA fl (es.take k) b = f1 at *
      have HA := Lib.hid hall
      have hxy := hall.1
      have hcl := cnt_le f1
      have hct := cnt_turn hall
      clear hall
      go_wp2_with (refine wpList_load_ext rfl (.tmp 13) rfl _ rfl _ hc0 hc1 ?_)
      have B1 := Blk.new wo 81 #[.int .i64 (x : Int), .int .i64 (y : Int)]
      have S1 : SAt (wo.alloc (.cells #[.int .i64 (x : Int), .int .i64 (y : Int)] 81)) g r A c f1 (cnt f1) := HS.out.of (Below.heap_alloc _ _ _ HS.out.blk.lt) (fun _ _ hb => Below.heap_alloc _ _ _ hb.lt)
      have O1 : Only [g, r] wo (wo.alloc (.cells #[.int .i64 (x : Int), .int .i64 (y : Int)] 81)) := (Only.refl _ _).alloc _
      have hgl := HS.out.blk.lt
      have hs1 : wo.heap.size < (wo.alloc (.cells #[.int .i64 (x : Int), .int .i64 (y : Int)] 81)).heap.size := by simp
      clear hc0 hc1
      generalize wo.alloc (.cells #[.int .i64 (x : Int), .int .i64 (y : Int)] 81) = w1 at *
      have hgb : g ≠ wo.heap.size := by omega
      have HW := Lib.hid (And.intro O1 HOn.out)
      clear O1 HOn
      generalize wo.heap.size = gb at *
      have HB1 := Lib.hid B1
      have HS1 := Lib.hid S1
      clear B1 S1
      go_loopw [8, 17] (fun _ i wi => ∃ j : Nat, j ≤ y ∧ i = .int .i64 j ∧ Only [g, r] w1 wi ∧ Blk wi gb 81 #[.int .i64 (x : Int), .int .i64 (y : Int)] ∧ SAt wi g r A c (setR f1 x j b) (cnt f1)) (fun _ i _ => y - (intS i).toNat)
      case atStart => exact ⟨0, by omega, rfl, Only.refl _ _, HB1.out, by rw [setR_zero]; exact HS1.out⟩
      case round =>
        obtain ⟨j, hj, rfl, ho, hb, hs⟩ := hrel
        by_cases hlj : j < y
        · have hl2 : (setR f1 x j b).length = f1.length := setR_len (by omega) b
          have q0 : wr.cell? ⟨g, 0, none⟩ = some (.slice A f1.length c) := by rw [hs.blk.cell, hl2]; rfl
          have q1 : wr.cell? ⟨gb, 0, none⟩ = some (.int .i64 (x : Int)) := hb.cell 0
          obtain ⟨rfl, ⟨v, q2⟩, q3, hrl, -⟩ := hs.row.cell (j := x + j) (by rw [hl2]; omega)
          have hs2 : (⟨r, 0, none⟩ : Addr).add (x + j) = ⟨r, x + j, none⟩ := add_zero_off _ _
          have q2' : wr.cell? ((⟨r, 0, none⟩ : Addr).add (x + j)) = some (.bool v) := by rw [hs2]; exact q2
          have q3' : wr.frozen? ((⟨r, 0, none⟩ : Addr).add (x + j)) = false := by rw [hs2]; exact q3
          have hix : ((x : Int) + (j : Int)).toNat = x + j := by omega
          have hwx : IntKind.i64.wrap ((x : Int) + (j : Int)) = (x : Int) + (j : Int) := by rw [IntKind.wrap_i64]; omega
          have HSs := Lib.hid hs
          have HBs := Lib.hid hb
          have HOs := Lib.hid ho
          clear hs hb ho
          go_wp2
          go_region
          all_goals go_wp2
          all_goals
            refine ⟨⟨j + 1, by omega, by go_num, (HOs.out.setCell (.inl (by simp)) _).drew, ?_, ?_⟩, by simp [intS]; omega⟩
            · exact HBs.out.far (p := ⟨r, x + j, none⟩) (by show gb ≠ r; exact HBs.out.ne_ ((HSs.out.row.cell (j := x + j) (by rw [hl2]; omega)).2.2.2.2.choose_spec) (by decide)) _
            · have h0 := HSs.out
              refine ⟨?_, by rw [setR_len (by omega)]; have := h0.cap; rw [hl2] at this; exact this, by rw [setR_len (by omega)]; exact hlim, ?_⟩
              · have := h0.blk.far (p := ⟨r, x + j, none⟩) (by show g ≠ r; exact hgr) (.bool b)
                rw [hl2] at this
                rw [setR_len (by omega)]
                exact this
              · have := h0.row.set (j := x + j) (by rw [hl2]; omega) b
                rw [setR_succ (by omega)] at this
                exact this
        · obtain rfl : j = y := by omega
          have hl2 : (setR f1 x j b).length = f1.length := setR_len (by omega) b
          have q1 : wr.cell? ⟨g, 1, none⟩ = some (.int .i64 (cnt f1)) := hs.blk.cell 1
          have q2 : wr.cell? ⟨gb, 1, none⟩ = some (.int .i64 (j : Int)) := hb.cell 1
          have q3 : wr.frozen? ⟨g, 1, none⟩ = false := hs.blk.frozen 1
          have hwa : IntKind.i64.wrap ((cnt f1 : Int) + (j : Int)) = (cnt f1 : Int) + (j : Int) := by rw [IntKind.wrap_i64]; omega
          have hwb : IntKind.i64.wrap ((cnt f1 : Int) - (j : Int)) = (cnt f1 : Int) - (j : Int) := by rw [IntKind.wrap_i64]; omega
          have HSs := Lib.hid hs
          have HBs := Lib.hid hb
          have HOs := Lib.hid ho
          have HCt := Lib.hid hct
          clear hs hb ho hct
          have hend : ∀ (d : Int), d = (cnt (setR f1 x j b) : Int) → Only [g, r] w (wr.setCell ⟨g, 1, none⟩ (.int .i64 d)) ∧ SAt (wr.setCell ⟨g, 1, none⟩ (.int .i64 d)) g r A c (setA fl (es.take (k + 1)) b) (cnt (setA fl (es.take (k + 1)) b)) := by
            intro d hd
            have h0 := HSs.out
            refine ⟨((HW.out.2.trans HW.out.1 (Fresh.refl _ _)).trans (HOs.out.setCell (.inl (by simp)) _) (Fresh.refl _ _)), ?_⟩
            rw [HT.out]
            refine ⟨?_, h0.cap, h0.lim, h0.row.of fun t cs hb => Below.heap_setCell _ _ _ _ (by show r ≠ g; exact fun e => hgr e.symm)⟩
            have := h0.blk.set_ 1 (.int .i64 d)
            rw [hd] at this ⊢
            exact this
          have HE := Lib.hid hend
          clear hend
          cases b
          · go_wp2
            go_region
            all_goals go_wp2
            all_goals
              have h1 := HE.out ((cnt f1 : Int) - (j : Int)) (by have := HCt.out; simp at this; omega)
              exact ⟨⟨k + 1, by omega, by go_num, h1.1.drew, h1.2.of rfl (fun _ _ _ => rfl)⟩, by simp [intS]; omega⟩
          · go_wp2
            go_region
            all_goals go_wp2
            all_goals
              have h1 := HE.out ((cnt f1 : Int) + (j : Int)) (by have := HCt.out; simp at this; omega)
              exact ⟨⟨k + 1, by omega, by go_num, h1.1.drew, h1.2.of rfl (fun _ _ _ => rfl)⟩, by simp [intS]; omega⟩
    · obtain rfl : k = es.length := by omega
      go_wp2
      refine bodyPost_end (results_none rfl _ _ _) rfl ?_
      have h := HS.out
      rw [List.take_length] at h
      exact ⟨rfl, HOn.out, h⟩
end Go.Proofs.YtfbpfgbmlbkffaaGreat

/-
  Values of many cells: how a struct of two parts, or a slice of one element, is put together, whatever the cells. No condition but the sizes.
-/
namespace Go.Proofs.YtfbpfgbmlbkffaaGreat
open Go.RowKit

theorem fill_two (n0 n1 : Nat) (v0 v1 : Value) (z : Array Value) (h0 : v0.cells.size = n0) (h1 : v1.cells.size = n1) (hz : z.size = n0 + n1) :
    Instr.fill (fun k => [(0, n0), (n0, n1)].toArray[k]?) z [(0, v0), (1, v1)] = some (v0.cells ++ v1.cells) := by
  obtain ⟨g1, g2⟩ := Great.foldl_set 0 v0.cells.toList 0 z
  obtain ⟨g3, g4⟩ := Great.foldl_set n0 v1.cells.toList 0 ((v0.cells.toList.zipIdx 0).foldl (fun cs (x : Value × Nat) => cs.setIfInBounds (0 + x.2) x.1) z)
  have e : ∀ (v : Value) (off : Nat) (c : Array Value), v.cells.zipIdx.foldl (fun cs (x : Value × Nat) => cs.setIfInBounds (off + x.2) x.1) c = (v.cells.toList.zipIdx 0).foldl (fun cs (x : Value × Nat) => cs.setIfInBounds (off + x.2) x.1) c := fun v off c => by
    rw [← Array.foldl_toList, Array.toList_zipIdx]
  have hf : Instr.fill (fun k => [(0, n0), (n0, n1)].toArray[k]?) z [(0, v0), (1, v1)] = some (v1.cells.zipIdx.foldl (fun cs (x : Value × Nat) => cs.setIfInBounds (n0 + x.2) x.1) (v0.cells.zipIdx.foldl (fun cs (x : Value × Nat) => cs.setIfInBounds (0 + x.2) x.1) z)) := by
    unfold Instr.fill
    simp only [List.getElem?_toArray, List.getElem?_cons_zero]
    rw [if_neg (by simp; omega)]
    unfold Instr.fill
    simp only [List.getElem?_cons_succ, List.getElem?_cons_zero]
    rw [if_neg (by rw [e, g1]; simp; omega)]
    rfl
  rw [hf, e, e]
  congr 1
  apply Array.ext_getElem?
  intro k
  have g5 : ∀ k, z.size ≤ k → (((v0.cells.toList.zipIdx 0).foldl (fun cs (x : Value × Nat) => cs.setIfInBounds (0 + x.2) x.1) z))[k]? = none := fun k hk => Array.getElem?_eq_none (by omega)
  rw [g4 k, g1]
  simp only [Nat.add_zero, Array.length_toList, h1]
  rw [Array.getElem?_append]
  by_cases hk : k < n0
  · rw [if_neg (by omega), g2 k, if_pos (by simp [h0]; omega), if_pos (by omega)]
    simp
  · by_cases hk2 : k < n0 + n1
    · rw [if_pos ⟨by omega, hk2, by omega⟩, if_neg (by omega), h0]
      simp
    · rw [if_neg (by omega), g5 k (by omega), if_neg (by omega), Array.getElem?_eq_none (by omega)]

/-- what the walk's own 'build' makes of a struct of two parts, the second of one cell: rules for it -/
theorem fold_cells (cs : List Value) (Z : Array Value) (z : Value) (hz : Z.size = cs.length + 1) (hl : Z[cs.length]? = some z) :
    List.foldl (fun (c : Array Value) (x : Value × Nat) => c.setIfInBounds x.snd x.fst) Z cs.zipIdx = (cs ++ [z]).toArray := by
  obtain ⟨g1, g2⟩ := Great.foldl_set 0 cs 0 Z
  simp only [Nat.zero_add] at g1 g2
  apply Array.ext_getElem?
  intro k
  rw [g2 k]
  simp only [List.getElem?_toArray, Nat.zero_le, true_and, Nat.sub_zero]
  by_cases hk : k < cs.length
  · rw [if_pos ⟨hk, by omega⟩, List.getElem?_append_left hk]
  · rw [if_neg (by omega), List.getElem?_append_right (by omega)]
    by_cases he : k = cs.length
    · subst he; simp [hl]
    · rw [Array.getElem?_eq_none (by omega), List.getElem?_eq_none (by simp; omega)]
theorem fold_whole (cs : List Value) (Z : Array Value) (hz : Z.size = cs.length) :
    List.foldl (fun (c : Array Value) (x : Value × Nat) => c.setIfInBounds x.snd x.fst) Z cs.zipIdx = cs.toArray := by
  obtain ⟨g1, g2⟩ := Great.foldl_set 0 cs 0 Z
  simp only [Nat.zero_add] at g1 g2
  apply Array.ext_getElem?
  intro k
  rw [g2 k]
  simp only [List.getElem?_toArray, Nat.zero_le, true_and, Nat.sub_zero]
  by_cases hk : k < cs.length
  · rw [if_pos ⟨hk, by omega⟩]
  · rw [if_neg (by omega), Array.getElem?_eq_none (by omega), List.getElem?_eq_none (by omega)]
theorem set_last (cs : List Value) (n : Nat) (hn : cs.length = n) (z x : Value) : (cs ++ [z]).toArray.setIfInBounds n x = (cs ++ [x]).toArray := by
  subst hn
  apply Array.ext_getElem?
  intro k
  simp only [List.setIfInBounds_toArray, List.getElem?_toArray, List.getElem?_set]
  by_cases hk : cs.length = k
  · subst hk; simp
  · rw [if_neg hk]
    by_cases h2 : k < cs.length
    · rw [List.getElem?_append_left h2, List.getElem?_append_left h2]
    · rw [List.getElem?_append_right (by omega), List.getElem?_append_right (by omega), List.getElem?_eq_none (by simp; omega), List.getElem?_eq_none (by simp; omega)]
/-- a struct of two parts -/
theorem run_build_two {P : Program} {t : TypeId} {n0 n1 : Nat} {fields : Array Field} (hu : P.underlying t = some (.struct fields)) (hz : (P.info? t).bind (fun i => i.zero.map fun z => z.cells.size) = some (n0 + n1))
    (hp : fields.toList.mapM (fun f => (P.info? f.type).map fun i => (f.offset, i.size)) = some [(0, n0), (n0, n1)]) {v0 v1 : Value} (h0 : v0.cells.size = n0) (h1 : v1.cells.size = n1) (w : World) :
    (Instr.build t #[(0, v0), (1, v1)]).run P w = .ok (.agg (v0.cells ++ v1.cells)) w := by
  cases hi : P.info? t with
  | none => simp [hi] at hz
  | some it =>
    cases hz' : it.zero with
    | none => simp [hi, hz'] at hz
    | some z =>
      simp [hi, hz'] at hz
      refine run_build w t _ _ ?_
      unfold Program.built
      simp only [hi, hu, hz', hp]
      exact fill_two n0 n1 v0 v1 z.cells h0 h1 hz

/-- a slice of one element -/
theorem run_buildSlice_one {P : Program} {t e : TypeId} {size : Nat} (hu : P.underlying t = some (.slice e)) (hz : (P.info? e).bind (fun i => i.zero.map fun z => (i.size, z.cells.size)) = some (size, size)) (hs : 0 < size) (hb : size ≤ 16777216) {v : Value} (h0 : v.cells.size = size) (w : World) :
    (Instr.buildSlice t 1 #[(0, v)]).run P w = .ok (.slice (some ⟨w.heap.size, 0, none⟩) 1 1) (w.alloc (.cells v.cells e)) := by
  cases hi : P.info? e with
  | none => simp [hi] at hz
  | some ie =>
    cases hz' : ie.zero with
    | none => simp [hi, hz'] at hz
    | some z =>
      simp [hi, hz'] at hz
      obtain ⟨e1, e2⟩ := hz
      refine run_buildSlice w t e 1 _ _ ie z hu hi hz' (by rw [e1]; omega) (by rw [e1]; omega) ?_
      have := Great.fill_whole hs [v] ((Array.range (1 * ie.size)).map (z.cells[· % z.cells.size]!)) (fun u hu => by simp at hu; subst hu; exact h0) (by simp [e1])
      rw [e1] at this ⊢
      simpa using this
/-- a store of many cells into the variable that was made last -/
theorem wpList_store_new {P : Program} {ops : Array Oper} {rest : List Oper} {o : Oper} {a : Act} {w : World} {Q : Exit → Act → World → Prop} (hgd : o.guard = none) (ty : TypeId) (x y : Operand) (ho : o.op = .store ty x y)
    (cells : List Value) (Z : Array Value) (hx : a.eval x = .pointer (some ⟨w.heap.size, 0, none⟩)) (hy : a.eval y = .agg cells.toArray) (hi : (P.info? ty).map (·.size) = some cells.length) (hz : Z.size = cells.length) (h1 : ∀ v ∈ cells, v.oneCell' = true)
    (h : wpList P ops Q rest (a.put o.dst undef) (w.alloc (.cells cells.toArray ty))) : wpList P ops Q (o :: rest) a (w.alloc (.cells Z ty)) :=
  wpList_plain hgd fun _ hK => by
    have hr := run_storeAt_new (P := P) w ty Z cells.toArray (by simpa using hi) (by simpa using hz) (all_oneCell_toArray h1)
    unfold Oper.wp execOp
    simp only [ho, hx, hy, Sem.run_bind, hr, Result.andThen_ok]
    exact hK _ _ h
/-- the same, the block's number as the walk spells it -/
theorem wpList_store_newN {P : Program} {ops : Array Oper} {rest : List Oper} {o : Oper} {a : Act} {w : World} {Q : Exit → Act → World → Prop} (hgd : o.guard = none) (ty : TypeId) (x y : Operand) (ho : o.op = .store ty x y) (N : Nat) (hN : w.heap.size = N)
    (cells : List Value) (Z : Array Value) (hx : a.eval x = .pointer (some ⟨N, 0, none⟩)) (hy : a.eval y = .agg cells.toArray) (hi : (P.info? ty).map (·.size) = some cells.length) (hz : Z.size = cells.length) (h1 : ∀ v ∈ cells, v.oneCell' = true)
    (h : wpList P ops Q rest (a.put o.dst undef) (w.alloc (.cells cells.toArray ty))) : wpList P ops Q (o :: rest) a (w.alloc (.cells Z ty)) := by
  subst hN
  exact wpList_store_new hgd ty x y ho cells Z hx hy hi hz h1 h
end Go.Proofs.YtfbpfgbmlbkffaaGreat
