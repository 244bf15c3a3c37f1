/-
  What Frozen, Covers, Scan and Changed return. Conditions: the rows read as bytes and flags, of no more than ten thousand.
-/
import Derived.Test.YtapbjaeimnafcaaKc
import Derived.Test.YtapbjaeimnafcaaKop
namespace Go.Proofs.Ytapbjaeimnafcaa
open Go.RowKit
set_option linter.unusedSimpArgs false
set_option maxRecDepth 100000
set_option linter.unusedVariables false
theorem app_ints {w : World} {ops : Array Oper} {rest : List Oper} {o : Oper} {a : Act} {Q : Exit → Act → World → Prop} (s x : Operand)
    (hgd : o.guard = none) (ho : o.op = .call { callee := .builtin .append, args := #[s, x], argTypes := #[45, 45] })
    (base : Nat) (v : Value) (n : Nat) (l : List Int) (hs : a.eval s = v) (hown : OwnI w base v n l)
    (B : Nat) (A : Option Addr) (m c : Nat) (news : List Int) (hx : a.eval x = .slice A m c) (hr : Ints w B A m news)
    (hsz : n + m ≤ 10000000) (hbase : base ≤ w.heap.size)
    (h : ∀ v' w', OwnI w' base v' (n + m) (l ++ news) → w.grownBy w' v.ownBlock → (v'.ownBlock = v.ownBlock ∨ v'.ownBlock = some w.heap.size) → wpList Try.prog ops Q rest (a.put o.dst v') w') :
    wpList Try.prog ops Q (o :: rest) a w := by
  obtain ⟨i0, hi0, hz0, hz1, hz2⟩ := info_parts int_info
  refine wpList_append_any w hgd s x _ ho base 3 i0 _ 1 8 Try.underlying45 hi0 hz0 hz1 hz2 rfl (by omega) v n (i64s l) hs hown B A m c (i64s news) hx hr (by
    intro u hu
    obtain ⟨b, _, rfl⟩ := List.mem_map.1 hu
    rfl) (by simp only [maxLen]; omega) (by omega) hbase ?_
  intro v' w' h1 h2 h3
  exact h v' w' (by unfold OwnI; rw [i64s, List.map_append]; exact h1) h2 h3
theorem OwnI.nil (w : World) (base : Nat) : OwnI w base (.slice none 0 0) 0 [] := World.ownsRow_nil w base _ 1
/-- the first k frozen -/
def frozenTo (bs : List Nat) (k : Nat) : List Nat := (bs.take k).map frz ++ bs.drop k
theorem frozenTo_zero (bs : List Nat) : frozenTo bs 0 = bs := by simp [frozenTo]
theorem frozenTo_all (bs : List Nat) : frozenTo bs bs.length = frozenM bs := by simp [frozenTo, frozenM]
theorem frozenTo_at {bs : List Nat} {k b : Nat} (h : bs[k]? = some b) : (frozenTo bs k)[k]? = some b := by
  have hk : k < bs.length := (List.getElem?_eq_some_iff.1 h).1
  unfold frozenTo
  rw [List.getElem?_append_right (by simp; omega), List.getElem?_drop, ← h]
  congr 1
  simp
  omega
theorem frozenTo_succ {bs : List Nat} {k b : Nat} (h : bs[k]? = some b) : frozenTo bs (k + 1) = (frozenTo bs k).set k (frz b) := by
  have hk : k < bs.length := (List.getElem?_eq_some_iff.1 h).1
  have hb : bs[k] = b := (List.getElem?_eq_some_iff.1 h).2
  unfold frozenTo
  rw [List.set_append_right _ _ (by simp; omega), take_snoc h, List.map_append, List.append_assoc]
  congr 1
  rw [show k - (List.map frz (List.take k bs)).length = 0 by simp; omega, List.drop_eq_getElem_cons hk, List.set_cons_zero]
  simp
theorem frozenTo_stay {bs : List Nat} {k b : Nat} (h : bs[k]? = some b) (hb : b ≠ 1) : frozenTo bs (k + 1) = frozenTo bs k := by
  rw [frozenTo_succ h]
  have e : frz b = b := by unfold frz; rw [if_neg hb]
  rw [e]
  apply List.ext_getElem?
  intro j
  rw [List.getElem?_set]
  split
  · rename_i e
    subst e
    have := frozenTo_at h
    rw [if_pos (List.getElem?_eq_some_iff.1 this).1, this]
  · rfl
theorem frozen_any (A : Option Addr) (n c : Nat) (bs : List Nat) (w : World) (hn : n ≤ 10000) (hb : Bytes w w.heap.size A n bs) :
    Calls Try.prog 24 #[.slice A n c] w fun e w' => e = .returned (.slice (some ⟨w.heap.size, 0, none⟩) n n) ∧ Blk w' w.heap.size 5 (u8s (frozenM bs)).toArray ∧ Below w.heap.size w w' := by
  have hl := hb.len
  have HB := Lib.hid hb
  have HL := Lib.hid (like_any A n c bs w (by omega) hb)
  clear hb
  go_enter Try.func24, Try.ntmps24
  go_wp2_with fail
  refine HL.out.mono ?_
  rintro e w1 ⟨rfl, k1, b1⟩
  generalize hg : w.heap.size = g at *
  have HK := Lib.hid (And.intro k1 b1)
  clear k1 b1 HL
  go_wp2
  go_loopw [10] (fun i wr => ∃ k : Nat, k ≤ n ∧ i = .int .i64 k ∧ Blk wr g 5 (u8s (frozenTo bs k)).toArray ∧ Below g w wr) (fun i _ => n - (intOf i).toNat)
  case atStart => exact ⟨0, by omega, rfl, by rw [frozenTo_zero]; exact HK.out.1, HK.out.2⟩
  case round =>
    obtain ⟨k, hk, rfl, hkb, hbl⟩ := hrel
    by_cases hlt : k < n
    · obtain ⟨b, hb⟩ : ∃ b, bs[k]? = some b := ⟨_, List.getElem?_eq_getElem (by omega)⟩
      have hc := hkb.cell8 (frozenTo_at hb)
      have hf := hkb.frozen k
      by_cases h1 : b = 1
      · subst h1
        have HE := Lib.hid (And.intro (hkb.set8 k 3) (hbl.setCell (p := ⟨g, k, none⟩) (Nat.le_refl _) (.int .u8 ((3 : Nat) : Int))))
        have HS := Lib.hid (frozenTo_succ hb)
        clear hkb hbl hb
        go_wp2
        go_roundw
        case rel => exact ⟨k + 1, by omega, by go_num, by rw [HS.out]; exact HE.out.1, HE.out.2⟩
        case measure => simp [intOf]; omega
      · have hd : ((b : Int) == 1) = false := by simp; omega
        have HS := Lib.hid (frozenTo_stay hb h1)
        have HE := Lib.hid (And.intro hkb hbl)
        clear hkb hbl hb
        go_wp2
        go_roundw
        case rel => exact ⟨k + 1, by omega, by go_num, by rw [HS.out]; exact HE.out.1, HE.out.2⟩
        case measure => simp [intOf]; omega
    · obtain rfl : k = n := by omega
      have HE := Lib.hid (And.intro hkb hbl)
      clear hkb hbl
      go_wp2
      go_ret
      subst hg
      refine ⟨rfl, ?_, HE.out.2⟩
      have := HE.out.1
      rwa [← hl, frozenTo_all] at this
theorem fl_at {l : List Bool} {k : Nat} {b : Bool} (h : l[k]? = some b) : fl l k = b := by simp [fl, h]
theorem fl_over {l : List Bool} {k : Nat} (h : l.length ≤ k) : fl l k = false := by simp [fl, List.getElem?_eq_none h]
theorem covers_any (A A' : Option Addr) (n n' c c' B B' : Nat) (bs : List Nat) (l : List Bool) (w : World) (hn : n' ≤ 10000) (hb : Bytes w B A n bs) (hf : Flags w B' A' n' l) :
    Calls Try.prog 32 #[.slice A n c, .slice A' n' c'] w fun e w' => e = .returned (.bool (coversTo bs l n')) ∧ w = w' := by
  have HB := Lib.hid hb
  have HF := Lib.hid hf
  clear hb hf
  go_enter Try.func32, Try.ntmps32
  go_wp2
  go_loopw [9] (fun i wr => ∃ k : Nat, k ≤ n' ∧ i = .int .i64 k ∧ wr = w ∧ coversTo bs l k = true) (fun i _ => n' - (intOf i).toNat)
  case atStart => exact ⟨0, by omega, rfl, by trivial, rfl⟩
  case round =>
    obtain ⟨k, hk, rfl, rfl, hco⟩ := hrel
    have HC := Lib.hid hco
    clear hco
    by_cases hlt : k < n'
    · obtain ⟨ad, x, rfl, hx, hc⟩ := HF.out.at_ hlt
      have hfx := fl_at hx
      have hsucc := coversTo_succ bs l k
      rw [HC.out, hfx, Bool.true_and] at hsucc
      have HS := Lib.hid hsucc
      clear hsucc hx hfx
      cases x with
      | false =>
        go_wp2
        go_roundw
        case rel => exact ⟨k + 1, by omega, by go_num, by trivial, by rw [HS.out]; rfl⟩
        case measure => simp [intOf]; omega
      | true =>
        go_wp2_with fail
        refine (at_any A n c B k bs wr HB.out (by omega)).mono ?_
        rintro e w2 ⟨rfl, rfl⟩
        by_cases h0 : mk bs k = 0
        · rw [h0]
          have HN : Hid (coversTo bs l n' = false) := Lib.hid (by
            have h1 : coversTo bs l (k + 1) = false := by rw [HS.out, h0]; rfl
            unfold coversTo at h1 ⊢
            rw [List.all_eq_false] at h1 ⊢
            obtain ⟨i, hi, h2⟩ := h1
            exact ⟨i, by have := List.mem_range.1 hi; exact List.mem_range.2 (by omega), h2⟩)
          clear h0
          go_wp2
          go_ret
          exact ⟨by rw [HN.out]; rfl, rfl⟩
        · have hd : (((mk bs k : Nat) : Int) == 0) = false := by simp; omega
          have h1 : coversTo bs l (k + 1) = true := by rw [HS.out]; simp [h0]
          have HN := Lib.hid h1
          clear h1 h0
          generalize mk bs k = z at *
          go_wp2
          go_roundw
          case rel => exact ⟨k + 1, by omega, by go_num, by trivial, HN.out⟩
          case measure => simp [intOf]; omega
    · obtain rfl : k = n' := by omega
      go_wp2
      go_ret
      exact ⟨by rw [HC.out]; rfl, rfl⟩
end Go.Proofs.Ytapbjaeimnafcaa
