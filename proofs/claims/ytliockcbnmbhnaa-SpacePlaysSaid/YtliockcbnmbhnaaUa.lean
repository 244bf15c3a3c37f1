/-
  The document's spaces: new ones, how many blocks are free, a space with an extent turned. Conditions: rows read as they are said to.
-/
import Derived.Test.YtliockcbnmbhnaaTg
namespace Go.Proofs.Ytliockcbnmbhnaa
open Go.RowKit Go.BigFrame
set_option linter.unusedSimpArgs false
set_option linter.unusedVariables false
/-- a row of flags of its own -/
def OwnB (w : World) (base : Nat) (v : Value) (fl : List Bool) : Prop := w.ownsRow base 4 1 v fl.length (flagsS fl)
theorem flagsS_len (fl : List Bool) : (flagsS fl).length = fl.length := by simp [flagsS]
theorem flagsS_set (fl : List Bool) (j : Nat) (b : Bool) : flagsS (fl.set j b) = (flagsS fl).set j (.bool b) := by simp [flagsS, List.map_set]
theorem flagsS_at {fl : List Bool} {j : Nat} {b : Bool} (h : fl[j]? = some b) : (flagsS fl)[j]? = some (.bool b) := by simp [flagsS, h]
section
variable {w w' : World} {base g c n : Nat} {v : Value} {A : Option Addr} {fl : List Bool}
theorem OwnB.reads (h : OwnB w base (.slice A n c) fl) : n = fl.length ∧ Reads w w.heap.size 1 A fl.length (flagsS fl) := by
  obtain rfl : n = fl.length := by
    rcases h.2 with ⟨e, h0⟩ | ⟨_, _, _, e, _⟩
    · injection e with _ e _; omega
    · injection e
  exact ⟨rfl, Reads.of_own h⟩
theorem OwnB.form (h : OwnB w base v fl) : ∃ A c, v = .slice A fl.length c := by
  rcases h.2 with ⟨e, h0⟩ | ⟨g, c, _, e, _⟩
  · exact ⟨none, 0, by rw [e, h0]⟩
  · exact ⟨_, c, e⟩
theorem OwnB.block (h : OwnB w base v fl) (h0 : 0 < fl.length) : ∃ g c, v = .slice (some ⟨g, 0, none⟩) fl.length c ∧ base ≤ g ∧ g < w.heap.size := by
  rcases h.2 with ⟨e, h1⟩ | ⟨g, c, cur, e, hb, hh, _⟩
  · omega
  · exact ⟨g, c, e, hb, Blk.lt (t := 4) hh⟩
theorem OwnB.set (h : OwnB w base (.slice (some ⟨g, 0, none⟩) fl.length c) fl) (j : Nat) (b : Bool) : OwnB (w.setCell ⟨g, j, none⟩ (.bool b)) base (.slice (some ⟨g, 0, none⟩) (fl.set j b).length c) (fl.set j b) := by
  have := (World.ownsRow.stored h j (.bool b)).1
  rw [← flagsS_set] at this
  unfold OwnB
  rw [List.length_set]
  exact this
theorem OwnB.cell (h : OwnB w base (.slice (some ⟨g, 0, none⟩) fl.length c) fl) {j : Nat} {b : Bool} (hj : fl[j]? = some b) : w.cell? ⟨g, j, none⟩ = some (.bool b) ∧ w.frozen? ⟨g, j, none⟩ = false := by
  have hl := (List.getElem?_eq_some_iff.1 hj).1
  exact ⟨(World.ownsRow.cellAt h j (by omega)).trans (flagsS_at hj), World.ownsRow.frozenAt h j⟩
theorem OwnB.below {B : Nat} (h : OwnB w base v fl) (hb : Below B w w') (hB : ∀ k, k ∈ rowOf v → k < B) : OwnB w' base v fl := row_of h fun k hk => hb.block k (hB k hk)
theorem OwnB.under (h : OwnB w base v fl) (hb : Below w.heap.size w w') : OwnB w' base v fl := h.below hb fun k hk => (World.ownsRow.lt h k (mem_rowOf.1 hk)).2
theorem OwnB.weaken {base' : Nat} (h : OwnB w base v fl) (hb : base' ≤ base) : OwnB w base' v fl := row_weaken h hb
theorem flags_get {B : Nat} (h : Reads w B 1 A fl.length (flagsS fl)) {k : Nat} (hk : k < fl.length) : ∃ ad b, A = some ad ∧ ad.block < B ∧ fl[k]? = some b ∧ w.cell? (ad.add k) = some (.bool b) := by
  obtain ⟨ad, u, e, hb, hu, hc⟩ := h.at_ hk
  have h1 := List.getElem?_eq_getElem hk
  rw [flagsS_at h1] at hu
  injection hu with hu
  subst hu
  exact ⟨ad, _, e, hb, h1, hc⟩
end
def fillL (n k : Nat) : List Bool := List.replicate k true ++ List.replicate (n - k) false
theorem fillL_len {n k : Nat} (h : k ≤ n) : (fillL n k).length = n := by simp [fillL]; omega
theorem fillL_at {n k : Nat} (h : k ≤ n) (j : Nat) : (fillL n k)[j]? = if j < n then some (decide (j < k)) else none := by
  unfold fillL
  rw [List.getElem?_append, List.length_replicate]
  by_cases h1 : j < k
  · rw [if_pos h1, List.getElem?_replicate, if_pos h1, if_pos (by omega), decide_eq_true h1]
  · rw [if_neg h1, List.getElem?_replicate]
    by_cases h2 : j < n
    · rw [if_pos (by omega), if_pos h2, decide_eq_false h1]
    · rw [if_neg (by omega), if_neg h2]
theorem fillL_set {n k : Nat} (h : k < n) : (fillL n k).set k true = fillL n (k + 1) := by
  apply List.ext_getElem?
  intro j
  rw [List.getElem?_set, fillL_at (by omega), fillL_at (by omega), fillL_len (by omega)]
  by_cases h1 : k = j
  · subst h1
    rw [if_pos rfl, if_pos h, if_pos h, decide_eq_true (by omega)]
  · rw [if_neg h1]
    by_cases h2 : j < k
    · rw [decide_eq_true h2, decide_eq_true (by omega)]
    · rw [decide_eq_false h2, decide_eq_false (by omega)]
set_option maxRecDepth 100000 in
set_option maxHeartbeats 1000000 in
theorem dnew_any (n : Nat) (hn : n ≤ 65536) (w : World) : Calls Try.prog 14 #[.int .i64 n] w fun e w' => ∃ v, e = .returned v ∧ OwnB w' w.heap.size v (List.replicate n true) ∧ Below w.heap.size w w' := by
  have hmk : ∀ w : World, (Instr.makeSlice 33 (.int .i64 (n : Int)) (.int .i64 (n : Int))).run Try.prog w = .ok (.slice (some ⟨w.heap.size, 0, none⟩) n n) (w.alloc (.cells (fillB n 0) 4)) := by
    intro w
    obtain ⟨i0, hi0, hz0, hz1, hz2⟩ := info_parts bool_info
    have := run_make (P := Try.prog) w 33 4 i0 (.bool false) Try.underlying33 hi0 hz0 .i64 .i64 n n (by omega) (by omega) (by rw [hz2]; omega) (by omega)
    rw [hz1] at this
    simp only [Int.toNat_natCast, Nat.mul_one] at this
    rw [this]
    have e : (Value.bool false).cells = (List.replicate 1 (Value.bool false)).toArray := rfl
    rw [e, made_sameB]
    simp [fillB]
  have h0 : OwnB (w.alloc (.cells (fillB n 0) 4)) w.heap.size (.slice (some ⟨w.heap.size, 0, none⟩) n n) (fillL n 0) := by
    have := World.ownsRow_lit (base := w.heap.size) (e := 4) (size := 1) w (fillB n 0) n (Nat.le_refl _) (by simp [maxLen]; omega) (by simp [fillB])
    unfold OwnB
    rw [fillL_len (Nat.zero_le _)]
    have e : flagsS (fillL n 0) = (fillB n 0).toList := by simp [flagsS, fillL, fillB]
    rw [e]
    exact this
  have H0 := Lib.hid (And.intro h0 ((Below.refl w.heap.size w).alloc (Nat.le_refl _) (.cells (fillB n 0) 4)))
  clear h0
  go_enter Try.func14, Try.ntmps14
  go_wp2
  generalize w.alloc (.cells (fillB n 0) 4) = w1 at *
  generalize hR : w.heap.size = r at *
  go_loopw [4] (fun i wr => ∃ k : Nat, k ≤ n ∧ i = .int .i64 k ∧ OwnB wr r (.slice (some ⟨r, 0, none⟩) n n) (fillL n k) ∧ Below r w wr) (fun i _ => n - (intS i).toNat)
  case atStart => exact ⟨0, by omega, rfl, H0.out.1, H0.out.2⟩
  case round =>
    obtain ⟨k, hk, rfl, ho, hb⟩ := hrel
    by_cases hlt : k < n
    · have hl := fillL_len hk
      have ho' := ho
      unfold OwnB at ho'
      rw [hl] at ho'
      have hx : (fillL n k)[k]? = some false := by simp [fillL, List.getElem?_append, List.getElem?_replicate]; omega
      have q2 : wr.cell? ⟨r, k, none⟩ = some (.bool false) := (OwnB.cell (c := n) (by rw [hl]; exact ho) hx).1
      have q3 : wr.frozen? ⟨r, k, none⟩ = false := (OwnB.cell (c := n) (by rw [hl]; exact ho) hx).2
      have hs2 : (⟨r, 0, none⟩ : Addr).add k = ⟨r, k, none⟩ := add_zero_off _ _
      have hnew := OwnB.set (c := n) (by rw [hl]; exact ho) k true
      rw [fillL_set hlt, fillL_len (by omega)] at hnew
      have HN := Lib.hid (And.intro hnew (hb.setCell (p := ⟨r, k, none⟩) (Nat.le_refl r) (.bool true)))
      clear ho ho' hb hnew hx
      have hwk : IntKind.i64.wrap ((k : Int) + 1) = (k : Int) + 1 := by rw [IntKind.wrap_i64]; omega
      go_wp2
      go_roundw
      case rel => exact ⟨k + 1, by omega, by go_num, HN.out.1, HN.out.2⟩
      case measure => simp [intS]; omega
    · obtain rfl : k = n := by omega
      have HN := Lib.hid (And.intro ho hb)
      clear ho hb
      go_wp2
      go_ret
      rw [hR]
      refine ⟨_, rfl, ?_, HN.out.2⟩
      have := HN.out.1
      rwa [show fillL k k = List.replicate k true from by simp [fillL]] at this
theorem cnt_snoc {fl : List Bool} {k : Nat} {b : Bool} (h : fl[k]? = some b) : cnt (fl.take (k + 1)) = cnt (fl.take k) + (if b then 1 else 0) := by
  rw [List.take_add_one, h, cnt, List.countP_append]
  cases b <;> simp [cnt]
set_option maxHeartbeats 1000000 in
theorem dfree_any {w : World} {B c : Nat} {A : Option Addr} {fl : List Bool} (hl : fl.length ≤ 65536) (hR : Reads w B 1 A fl.length (flagsS fl)) :
    Calls Try.prog 30 #[.slice A fl.length c] w fun e w' => e = .returned (.int .i64 (cnt fl)) ∧ w = w' := by
  have HR := Lib.hid hR
  clear hR
  go_enter Try.func30, Try.ntmps30
  go_wp2
  go_loopw [3, 4] (fun s i wr => ∃ k : Nat, k ≤ fl.length ∧ i = .int .i64 k ∧ s = .int .i64 (cnt (fl.take k)) ∧ wr = w) (fun _ i _ => fl.length - (intS i).toNat)
  case atStart => exact ⟨0, by omega, rfl, by simp [cnt], rfl⟩
  case round =>
    obtain ⟨k, hk, rfl, rfl, rfl⟩ := hrel
    by_cases hlt : k < fl.length
    · obtain ⟨ad, b, rfl, -, he, hc⟩ := flags_get HR.out hlt
      have hn := cnt_snoc he
      have hle := cnt_le (fl.take k)
      have hle2 : (fl.take k).length ≤ k := by simp; omega
      have HN := Lib.hid hn
      clear hn he
      have hwk : IntKind.i64.wrap ((k : Int) + 1) = (k : Int) + 1 := by rw [IntKind.wrap_i64]; omega
      have hwc : IntKind.i64.wrap ((cnt (fl.take k) : Int) + 1) = (cnt (fl.take k) : Int) + 1 := by rw [IntKind.wrap_i64]; omega
      cases b
      · go_wp2
        go_roundw
        case rel => exact ⟨k + 1, by omega, by go_num, by rw [HN.out]; simp, by trivial⟩
        case measure => simp [intS]; omega
      · go_wp2
        go_roundw
        case rel => exact ⟨k + 1, by omega, by go_num, by rw [HN.out]; simp, by trivial⟩
        case measure => simp [intS]; omega
    · obtain rfl : k = fl.length := by omega
      go_wp2
      go_ret
      rw [List.take_length]
      exact ⟨rfl, rfl⟩
end Go.Proofs.Ytliockcbnmbhnaa
