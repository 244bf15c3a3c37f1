/-
  What the program's reader reads as numbers. Conditions: the reader lies where it is said to; it has no more than nine million bytes.
-/
import Derived.Test.YtjepfeagbiceoaaRd2
import Derived.Laws.MakeOwn
namespace Go.Proofs.Ytjepfeagbiceoaa
open Go.RowKit
set_option linter.unusedSimpArgs false
set_option maxRecDepth 100000
set_option linter.unusedVariables false
theorem made_same (m k : Nat) (v : Value) (hm : 0 < m) : madeCells (List.replicate m v).toArray k = (List.replicate k v).toArray := by
  unfold madeCells
  apply Array.ext
  · simp
  · intro i h1 h2
    have h3 : i % m < m := Nat.mod_lt _ hm
    have h4 : i % (List.replicate m v).toArray.size < (List.replicate m v).toArray.size := by simpa using h3
    rw [Array.getElem_map, Array.getElem_range, getElem!_pos (List.replicate m v).toArray (i % (List.replicate m v).toArray.size) h4]
    simp
theorem int_info : (Try.prog.info? 3).map (fun i => (i.zero, i.size, i.bytes)) = some (some (.int .i64 0), 1, 8) := by kernel_rfl
theorem make_ints (q : Nat) (hq : q ≤ 9000000) (w : World) : (Instr.makeSlice 26 (.int .i64 q) (.int .i64 q)).run Try.prog w = .ok (.slice (some ⟨w.heap.size, 0, none⟩) q q) (w.alloc (.cells (List.replicate q (Value.int .i64 0)).toArray 3)) := by
  obtain ⟨i0, hi0, hz0, hz1, hz2⟩ := info_parts int_info
  have := run_make (P := Try.prog) w 26 3 i0 (.int .i64 0) Try.underlying26 hi0 hz0 .i64 .i64 q q (by omega) (by omega) (by rw [hz2]; omega) (by omega)
  rw [hz1] at this
  simp only [Int.toNat_natCast, Nat.mul_one] at this
  rw [this]
  have e : (Value.int .i64 0).cells = (List.replicate 1 (Value.int .i64 0)).toArray := rfl
  rw [e, made_same 1 q _ (by omega)]
/-- numbers of the call's own -/
def OwnI (w : World) (base : Nat) (v : Value) (n : Nat) (l : List Int) : Prop := w.ownsRow base 3 1 v n (i64s l)
theorem OwnI.ints {w : World} {base n c : Nat} {A : Option Addr} {l : List Int} (h : OwnI w base (.slice A n c) n l) : Ints w w.heap.size A n l := Reads.of_own h
theorem OwnI.weaken {w : World} {base base' n : Nat} {v : Value} {l : List Int} (h : OwnI w base v n l) (hb : base' ≤ base) : OwnI w base' v n l := row_weaken h hb
theorem OwnI.form {w : World} {base : Nat} {v : Value} {n : Nat} {l : List Int} (h : OwnI w base v n l) : ∃ (A : Option Addr) (cap : Nat), v = .slice A n cap ∧ ∀ a, A = some a → base ≤ a.block := by
  rcases h.2 with ⟨rfl, hx⟩ | ⟨g, cap, cur, rfl, hbg, hg, hnc, hcm, hcs, hpre⟩
  · have : n = 0 := by have := h.1; rw [hx] at this; simp at this; omega
    subst this
    exact ⟨none, 0, rfl, fun a ha => by cases ha⟩
  · exact ⟨some ⟨g, 0, none⟩, cap, rfl, fun a ha => by injection ha with ha; subst ha; exact hbg⟩
theorem OwnI.of_blk {w : World} {base g n : Nat} {l : List Int} (h : Blk w g 3 (i64s l).toArray) (hl : l.length = n) (hb : base ≤ g) (hn : n ≤ 9000000) : OwnI w base (.slice (some ⟨g, 0, none⟩) n n) n l :=
  ⟨by rw [i64s_length]; omega, .inr ⟨g, n, _, rfl, hb, h, Nat.le_refl _, by simp [maxLen]; omega, by simp [i64s_length, hl], by rw [List.take_of_length_le (by simp [i64s_length, hl])]⟩⟩
def filling (l : List Int) (q : Nat) : List Value := i64s l ++ List.replicate (q - l.length) (.int .i64 0)
theorem filling_set (l : List Int) (q : Nat) (x : Int) (h : l.length < q) : (filling l q).toArray.setIfInBounds l.length (.int .i64 x) = (filling (l ++ [x]) q).toArray := by
  unfold filling
  have e : q - l.length = (q - (l ++ [x]).length) + 1 := by simp; omega
  rw [e, List.replicate_succ]
  simp only [List.setIfInBounds_toArray]
  congr 1
  rw [List.set_append_right _ _ (by rw [i64s_length]; exact Nat.le_refl _), i64s_length, Nat.sub_self, List.set_cons_zero]
  simp [i64s]
theorem filling_cell (l : List Int) (q : Nat) (h : l.length < q) : (filling l q).toArray[l.length]? = some (.int .i64 0) := by
  unfold filling
  rw [List.getElem?_toArray, List.getElem?_append_right (by rw [i64s_length]; exact Nat.le_refl _), i64s_length, Nat.sub_self, List.getElem?_replicate, if_pos (by omega)]
theorem rnums_any (w : World) (base : Nat) (F : List Nat) (p : Option Addr) (s : RD) (h : Rd w base F p s) (hB : base ≤ w.heap.size) (hs : s.bs.length ≤ 9000000) :
    Calls Try.prog 57 #[.pointer p] w fun e w' => ∃ v, e = .returned v ∧ OwnI w' w.heap.size v s.nums.length s.nums ∧ RTo w base F p s.numsTo w' := by
  have hFu := h.under
  have hl8 := RD.take_le s 8
  by_cases hneg : s.num < 0
  · have hd : decide (s.num < 0) = true := by simpa using hneg
    have hmany : s.many = false := by simp [RD.many]; omega
    have e1 : s.numsTo = RD.spoilt := by unfold RD.numsTo; rw [hmany]; rfl
    have e2 : s.nums = [] := by unfold RD.nums; rw [hmany]; rfl
    rw [e1, e2]
    go_enter Try.func57, Try.ntmps57
    go_wp2_with fail
    refine (rnum_any w base F p s h hB).mono ?_
    rintro e w1 ⟨rfl, F1, r1, o1, f1⟩
    go_wp2_with fail
    refine (spoil_any w1 base F1 p _ r1).mono ?_
    rintro e w2 ⟨rfl, r2⟩
    go_wp2
    go_ret
    exact ⟨_, rfl, World.ownsRow_nil _ _ _ _, r2.after o1 f1⟩
  · obtain ⟨q, hq⟩ := Int.eq_ofNat_of_zero_le (show 0 ≤ s.num by omega)
    have hd : decide ((q : Int) < 0) = false := decide_eq_false (by omega)
    by_cases hbig : (s.take 8).bs.length / 8 < q
    · have hmany : s.many = false := by simp [RD.many, hq]; omega
      have e1 : s.numsTo = RD.spoilt := by unfold RD.numsTo; rw [hmany]; rfl
      have e2 : s.nums = [] := by unfold RD.nums; rw [hmany]; rfl
      rw [e1, e2]
      go_enter Try.func57, Try.ntmps57
      go_wp2_with fail
      refine (rnum_any w base F p s h hB).mono ?_
      rintro e w1 ⟨rfl, F1, r1, o1, f1⟩
      go_wp2_with fail
      refine (left_any w1 base F1 p _ r1).mono ?_
      rintro e w2 ⟨rfl, rfl⟩
      go_wp2_with fail
      refine (spoil_any w1 base F1 p _ r1).mono ?_
      rintro e w2 ⟨rfl, r2⟩
      go_wp2
      go_ret
      exact ⟨_, rfl, World.ownsRow_nil _ _ _ _, r2.after o1 f1⟩
    · have hto : s.numsTo = RD.run q (s.take 8) ∧ s.nums = RD.rows (s.take 8) q := by
        cases hb : (s.take 8).bad with
        | true =>
          have hf : s.fits 8 = false := by
            cases hf : s.fits 8 with
            | false => rfl
            | true => simp [RD.take, hf] at hb
          have hn : s.num = 0 := by simp [RD.num, RD.got, hf, numOf, un, wrap64]
          obtain rfl : q = 0 := by omega
          have hmany : s.many = false := by simp [RD.many, hb]
          have ht : s.take 8 = RD.spoilt := by simp [RD.take, hf]
          simp [RD.numsTo, RD.nums, hmany, RD.run, RD.rows, ht]
        | false =>
          have hmany : s.many = true := by simp [RD.many, hq, hb]; omega
          simp [RD.numsTo, RD.nums, hmany, hq]
      rw [hto.1, hto.2, RD.rows_len]
      have hq9 : q ≤ 9000000 := by omega
      have hd2 : decide (((s.take 8).bs.length : Int) / 8 < (q : Int)) = false := decide_eq_false (by omega)
      have hmk := make_ints q hq9
      obtain ⟨Zq, hZq⟩ : ∃ Zq, Zq = (List.replicate q (Value.int .i64 0)).toArray := ⟨_, rfl⟩
      rw [← hZq] at hmk
      have HZ := Lib.hid hZq
      clear hZq hto
      go_enter Try.func57, Try.ntmps57
      go_wp2_with fail
      refine (rnum_any w base F p s h hB).mono ?_
      rintro e w1 ⟨rfl, F1, r1, o1, f1⟩
      go_wp2_with fail
      refine (left_any w1 base F1 p _ r1).mono ?_
      rintro e w2 ⟨he, hw⟩
      subst hw
      subst he
      have M0 := Lib.hid (Blk.new w1 3 Zq)
      have R0 := Lib.hid (r1.below (below_alloc w1 (.cells Zq 3)))
      have O0 := Lib.hid (o1.alloc (.cells Zq 3))
      have FF := Lib.hid f1
      have hgw : w.heap.size ≤ w1.heap.size := o1.size
      have hg1 : w1.heap.size ∉ F1 := fun hm => by have := r1.under _ hm; omega
      clear r1 o1 f1
      go_wp2_with fail
      generalize w1.alloc (.cells Zq 3) = w2 at *
      generalize w1.heap.size = gq at *
      go_loopw [23] (fun i wr => ∃ (k : Nat) (F2 : List Nat), k ≤ q ∧ i = .int .i64 k ∧ Blk wr gq 3 (filling (RD.rows (s.take 8) k) q).toArray ∧ Rd wr base F2 p (RD.run k (s.take 8)) ∧ Only F w wr ∧ Fresh w F F2 ∧ gq ∉ F2) (fun i _ => q - (intOf i).toNat)
      case atStart =>
        refine ⟨0, F1, Nat.zero_le _, rfl, ?_, R0.out, O0.out, FF.out, hg1⟩
        have := M0.out
        rw [HZ.out] at this
        simpa [filling, RD.rows, i64s] using this
      case round =>
        obtain ⟨k, F2, hk, rfl, hm, hr, ho, hf, hg2⟩ := hrel
        have hlk := RD.rows_len (s.take 8) k
        by_cases hlt : k < q
        · have Hm := Lib.hid hm
          have Hr := Lib.hid hr
          have Ho := Lib.hid ho
          have Hf := Lib.hid hf
          have hlt2 := hm.lt
          have hk0 : (0 : Int) ≤ (k : Int) := by omega
          have hk1 : (k : Int) < (q : Int) := by omega
          clear hm hr ho hf
          go_wp2_with fail
          refine (rnum_any wr base F2 p _ Hr.out (Nat.le_trans hB Ho.out.size)).mono ?_
          rintro e w3 ⟨rfl, F3, r3, o3, f3⟩
          have hg3 : gq ∉ F3 := fun hm => by
            rcases f3 _ hm with h' | h'
            · exact hg2 h'
            · omega
          have B3 : Blk w3 gq 3 (filling (RD.rows (s.take 8) k) q).toArray := Hm.out.of (o3.block gq hlt2 hg2)
          have c3 : w3.cell? ⟨gq, k, none⟩ = some (.int .i64 0) := by
            rw [B3.cell]
            have := filling_cell (RD.rows (s.take 8) k) q (by omega)
            rwa [hlk] at this
          have f3' : w3.frozen? ⟨gq, k, none⟩ = false := B3.frozen _
          have HB3 := Lib.hid B3
          have HR3 := Lib.hid (And.intro r3 (And.intro o3 f3))
          clear B3 r3 o3 f3
          go_wp2
          go_roundw
          case rel =>
            obtain ⟨r3, o3, f3⟩ := HR3.out
            refine ⟨k + 1, F3, by omega, by go_num, ?_, r3.of (by simp [World.setCell]) (fun j hj => Below.heap_setCell _ _ _ _ (fun e => hg3 (by subst e; exact hj))), (Ho.out.trans o3 Hf.out).setCell (.inr hgw) _, Hf.out.trans f3 Ho.out.size, hg3⟩
            have := HB3.out.set_ k (.int .i64 (RD.run k (s.take 8)).num)
            have e := filling_set (RD.rows (s.take 8) k) q (RD.run k (s.take 8)).num (by omega)
            rw [hlk] at e
            rw [e] at this
            exact this
          case measure => simp [intOf]; omega
        · obtain rfl : k = q := by omega
          have HB : Hid (Blk wr gq 3 (i64s (RD.rows (s.take 8) k)).toArray) := by
            have : filling (RD.rows (s.take 8) k) k = i64s (RD.rows (s.take 8) k) := by unfold filling; rw [hlk]; simp
            rw [this] at hm
            exact Lib.hid hm
          have HR : Hid (RTo w base F p (RD.run k (s.take 8)) wr) := Lib.hid ⟨F2, hr, ho, hf⟩
          clear hm hr ho hf
          go_wp2
          go_ret
          exact ⟨_, rfl, OwnI.of_blk HB.out hlk hgw hq9, HR.out⟩
end Go.Proofs.Ytjepfeagbiceoaa
