/-
  What the document's reader reads. Conditions: it lies where it is said to.
-/
import Derived.Test.YtjepfeagbiceoaaMr
namespace Go.Proofs.Ytjepfeagbiceoaa
open Go.RowKit
set_option linter.unusedSimpArgs false
set_option maxRecDepth 100000
set_option linter.unusedVariables false
theorem un_drop (l : List Nat) (k b : Nat) (h : l[k]? = some b) : un (l.drop k) = b + 256 * un (l.drop (k + 1)) := by
  have hk : k < l.length := (List.getElem?_eq_some_iff.1 h).1
  rw [List.drop_eq_getElem_cons hk, un]
  have : l[k] = b := (List.getElem?_eq_some_iff.1 h).2
  rw [this]
theorem un_drop_lt (l : List Nat) (k : Nat) (hl : l.length ≤ 8) (hb : ∀ b ∈ l, b < 256) : un (l.drop (k + 1)) < 72057594037927936 := by
  have h := un_lt (l.drop (k + 1)) (fun b hm => hb b (List.mem_of_mem_drop hm))
  have h2 : (l.drop (k + 1)).length ≤ 7 := by rw [List.length_drop]; omega
  have h3 : (256 : Nat) ^ (l.drop (k + 1)).length ≤ 256 ^ 7 := Nat.pow_le_pow_right (by omega) h2
  have h4 : (256 : Nat) ^ 7 = 72057594037927936 := by decide
  omega
theorem mnum_any (w : World) (base g : Nat) (s : RD) (h : Mr w base g s) (hs : s.bs.length ≤ 9000000) :
    Calls Try.prog 61 #[.pointer (some ⟨g, 0, none⟩)] w fun e w' => e = .returned (.int .i64 s.num) ∧ Mr w' base g (s.take 8) ∧ Only [g] w w' := by
  have hg := RD.got_lt h.good 8
  have hgl := got_len s 8
  have hnum : s.num = numOf (s.got 8) := rfl
  rw [hnum]
  go_enter Try.func61, Try.ntmps61
  go_wp2_with fail
  refine (mtake_any w base g s 8 h (by omega) (by omega) hs).mono ?_
  rintro e w1 ⟨v, rfl, h1, m1, o1⟩
  obtain ⟨A1, c1, rfl, -, -, -⟩ := h1.form
  have hby := h1.bytes hg
  have h8 : (s.got 8).length ≤ 8 := by
    rcases hgl with h | h
    · have h' : (s.got 8).length = 8 := h
      omega
    · have h' : (s.got 8).length = 0 := h
      omega
  have HM := Lib.hid (And.intro m1 o1)
  clear h1 m1 o1 hgl hnum
  generalize hq : s.got 8 = l at *
  have HQ := Lib.hid hq
  clear hq
  have HB := Lib.hid hby
  have HG := Lib.hid hg
  clear hby hg
  go_wp2
  go_loop [4, 5] (fun u i => ∃ k : Nat, k ≤ l.length ∧ i = .int .i64 ((k : Int) - 1) ∧ u = .int .u64 (un (l.drop k) : Nat)) (fun _ i => ((intOf i) + 1).toNat)
  case atStart => exact ⟨l.length, Nat.le_refl _, rfl, by simp [un]⟩
  case round =>
    obtain ⟨k, hk, rfl, rfl⟩ := hrel
    by_cases h0 : k = 0
    · subst h0
      have hd : decide ((0 : Int) ≤ (((0 : Nat) : Int) - 1)) = false := by decide
      go_wp2
      go_ret
      exact ⟨by rw [HQ.out]; rfl, HM.out⟩
    · obtain ⟨j, rfl⟩ : ∃ j, k = j + 1 := ⟨k - 1, by omega⟩
      obtain ⟨ad, b, rfl, hbj, hb256, hc⟩ := HB.out.at_ (show j < l.length by omega)
      have hlt := un_drop_lt l j h8 HG.out
      have hun := Lib.hid (un_drop l j b hbj)
      generalize un (l.drop (j + 1)) = u at *
      have e1 : (((j + 1 : Nat) : Int) - 1) = (j : Int) := by omega
      rw [e1]
      have hj0 : (0 : Int) ≤ (j : Int) := by omega
      have hj1 : (j : Int) < (l.length : Int) := by omega
      clear hbj
      go_wp2
      refine ⟨⟨j, by omega, rfl, ?_⟩, by simp only [intOf]; omega⟩
      rw [hun.out]
      congr 1
      omega
theorem mbyte_any (w : World) (base g : Nat) (s : RD) (h : Mr w base g s) (hs : s.bs.length ≤ 9000000) :
    Calls Try.prog 92 #[.pointer (some ⟨g, 0, none⟩)] w fun e w' => e = .returned (.int .u8 s.byte) ∧ Mr w' base g (s.take 1) ∧ Only [g] w w' := by
  have hg := RD.got_lt h.good 1
  have hbyte : s.byte = (s.got 1).headD 0 := rfl
  rw [hbyte]
  go_enter Try.func92, Try.ntmps92
  go_wp2_with fail
  refine (mtake_any w base g s 1 h (by omega) (by omega) hs).mono ?_
  rintro e w1 ⟨v, rfl, h1, m1, o1⟩
  obtain ⟨A1, c1, rfl, -, -, -⟩ := h1.form
  have hby := h1.bytes hg
  have HM := Lib.hid (And.intro m1 o1)
  clear h1 m1 o1 hbyte
  cases hq : s.got 1 with
  | nil =>
    rw [hq] at hby
    have HQ := Lib.hid hq
    clear hq
    go_wp2
    go_ret
    exact ⟨by rw [HQ.out]; rfl, HM.out⟩
  | cons b l =>
    rw [hq] at hby
    obtain ⟨ad, b', rfl, hb', hb256, hc⟩ := hby.at_ (show 0 < (b :: l).length by simp)
    simp at hb'
    subst hb'
    have HQ := Lib.hid hq
    have hc0 : w1.cell? ad = some (.int .u8 b) := by
      have e : ad.add 0 = ad := by simp [Addr.add]
      rwa [e] at hc
    have hd : (((b :: l).length : Int) == 0) = false := by simp; omega
    clear hq
    go_wp2
    go_ret
    exact ⟨by rw [HQ.out]; rfl, HM.out⟩
theorem mflag_any (w : World) (base g : Nat) (s : RD) (h : Mr w base g s) (hs : s.bs.length ≤ 9000000) :
    Calls Try.prog 59 #[.pointer (some ⟨g, 0, none⟩)] w fun e w' => e = .returned (.bool s.flag) ∧ Mr w' base g s.flagTo ∧ Only [g] w w' := by
  have hby := RD.byte_lt h.good
  have hfl : ((s.byte : Int) == 1) = s.flag := by unfold RD.flag; rw [Bool.eq_iff_iff, beq_iff_eq, beq_iff_eq]; omega
  by_cases h1 : 1 < s.byte
  · have hd : decide (1 < (s.byte : Int)) = true := by simp; omega
    have hto : s.flagTo = RD.spoilt := by unfold RD.flagTo; rw [if_pos h1]
    rw [hto]
    go_enter Try.func59, Try.ntmps59
    go_wp2_with fail
    refine (mbyte_any w base g s h hs).mono ?_
    rintro e w1 ⟨rfl, m1, o1⟩
    have hsp := Lib.hid (mspoil_cells m1)
    have HO := Lib.hid o1
    obtain ⟨A, c, k1, k2, k3, k4, k5, k6⟩ := m1
    have hc0 : w1.cell? ⟨g, 0, none⟩ = some (.slice A (s.take 1).bs.length c) := by rw [k1.cell]; rfl
    have hc1 : w1.cell? ⟨g, 1, none⟩ = some (.bool (s.take 1).bad) := by rw [k1.cell]; rfl
    have hf0 : w1.frozen? ⟨g, 0, none⟩ = false := k1.frozen _
    have hf1 : w1.frozen? ⟨g, 1, none⟩ = false := k1.frozen _
    clear k1 k2 k3 k4 k6 o1
    go_wp2
    go_ret
    exact ⟨rfl, hsp.out.1, HO.out.trans hsp.out.2 (Fresh.refl _ _)⟩
  · have hd : decide (1 < (s.byte : Int)) = false := by simp; omega
    have hto : s.flagTo = s.take 1 := by unfold RD.flagTo; rw [if_neg h1]
    rw [hto]
    go_enter Try.func59, Try.ntmps59
    go_wp2_with fail
    refine (mbyte_any w base g s h hs).mono ?_
    rintro e w1 ⟨rfl, m1, o1⟩
    go_wp2
    go_ret
    exact ⟨rfl, m1, o1⟩
theorem RD.bad_num {s : RD} (h : (s.take 8).bad = true) : s.num = 0 ∧ s.take 8 = RD.spoilt := by
  have hf : s.fits 8 = false := by
    cases hf : s.fits 8 with
    | false => rfl
    | true => simp [RD.take, hf] at h
  exact ⟨by simp [RD.num, RD.got, hf, numOf, un, wrap64], by simp [RD.take, hf]⟩
theorem mbytes_any (w : World) (base g : Nat) (s : RD) (h : Mr w base g s) (hs : s.bs.length ≤ 9000000) :
    Calls Try.prog 60 #[.pointer (some ⟨g, 0, none⟩)] w fun e w' => ∃ v, e = .returned v ∧ Own w' w.heap.size v s.bytes.length s.bytes ∧ Mr w' base g s.bytesTo ∧ Only [g] w w' := by
  have hle := RD.take_le s 8
  cases hb : (s.take 8).bad with
  | true =>
    obtain ⟨e1, e2⟩ := RD.bad_num hb
    have e3 : s.bytes = [] := by simp [RD.bytes, e2, RD.got, RD.fits, RD.spoilt]
    have e4 : s.bytesTo = s.take 8 := by unfold RD.bytesTo; rw [e2]; simp [RD.take, RD.fits, RD.spoilt]
    rw [e3, e4]
    go_enter Try.func60, Try.ntmps60
    go_wp2_with fail
    refine (mnum_any w base g s h hs).mono ?_
    rintro e w1 ⟨rfl, m1, o1⟩
    have HM := Lib.hid m1
    obtain ⟨A, c, k1, -⟩ := m1
    have hc1 : w1.cell? ⟨g, 1, none⟩ = some (.bool true) := by rw [k1.cell, hb]; rfl
    clear k1
    go_wp2
    go_ret
    exact ⟨_, rfl, Own.nil _ _, HM.out, o1⟩
  | false =>
    go_enter Try.func60, Try.ntmps60
    go_wp2_with fail
    refine (mnum_any w base g s h hs).mono ?_
    rintro e w1 ⟨rfl, m1, o1⟩
    have HM := Lib.hid m1
    obtain ⟨A, c, k1, -⟩ := m1
    have hc1 : w1.cell? ⟨g, 1, none⟩ = some (.bool false) := by rw [k1.cell, hb]; rfl
    clear k1
    go_wp2_with fail
    refine (mtake_any w1 base g (s.take 8) s.num HM.out (num_range s).1 (num_range s).2 (by omega)).mono ?_
    rintro e w2 ⟨v, rfl, h2, m2, o2⟩
    go_wp2
    go_ret
    exact ⟨v, rfl, h2.weaken o1.size, m2, o1.trans o2 (Fresh.refl _ _)⟩
theorem app_int {w : World} {ops : Array Oper} {rest : List Oper} {o : Oper} {a : Act} {Q : Exit → Act → World → Prop} (s x : Operand)
    (hgd : o.guard = none) (ho : o.op = .call { callee := .builtin .append, args := #[s, x], argTypes := #[26, 26] })
    (base : Nat) (v : Value) (n : Nat) (l : List Int) (hs : a.eval s = v) (hown : OwnI w base v n l)
    (B : Nat) (A : Option Addr) (m c : Nat) (news : List Int) (hx : a.eval x = .slice A m c) (hr : Ints w B A m news)
    (hsz : n + m ≤ 10000000) (hbase : base ≤ w.heap.size)
    (h : ∀ v' w', OwnI w' base v' (n + m) (l ++ news) → w.grownBy w' v.ownBlock → (v'.ownBlock = v.ownBlock ∨ v'.ownBlock = some w.heap.size) → wpList Try.prog ops Q rest (a.put o.dst v') w') :
    wpList Try.prog ops Q (o :: rest) a w := by
  obtain ⟨i0, hi0, hz0, hz1, hz2⟩ := info_parts int_info
  refine wpList_append_any w hgd s x _ ho base 3 i0 _ 1 8 Try.underlying26 hi0 hz0 hz1 hz2 rfl (by omega) v n (i64s l) hs hown B A m c (i64s news) hx hr (by
    intro u hu
    obtain ⟨b, _, rfl⟩ := List.mem_map.1 hu
    rfl) (by simp only [maxLen]; omega) (by omega) hbase ?_
  intro v' w' h1 h2 h3
  exact h v' w' (by unfold OwnI; rw [i64s, List.map_append]; exact h1) h2 h3
theorem mnums_any (w : World) (base g : Nat) (s : RD) (h : Mr w base g s) (hs : s.bs.length ≤ 9000000) :
    Calls Try.prog 62 #[.pointer (some ⟨g, 0, none⟩)] w fun e w' => ∃ v, e = .returned v ∧ OwnI w' w.heap.size v s.nums.length s.nums ∧ Mr w' base g s.numsTo ∧ Only [g] w w' := by
  have hle := RD.take_le s 8
  have hgl := h.lt
  by_cases hmany : s.many = true
  · obtain ⟨q, hq⟩ : ∃ q : Nat, s.num = q := by
      simp [RD.many] at hmany
      exact ⟨s.num.toNat, by omega⟩
    have hto : s.numsTo = RD.run q (s.take 8) ∧ s.nums = RD.rows (s.take 8) q := by simp [RD.numsTo, RD.nums, hmany, hq]
    have hbad : (s.take 8).bad = false := by simp [RD.many] at hmany; exact hmany.2
    have hqs : q ≤ (s.take 8).bs.length / 8 := by simp [RD.many, hq] at hmany; omega
    rw [hto.1, hto.2, RD.rows_len]
    have hd : decide ((q : Int) < 0) = false := decide_eq_false (by omega)
    have hd2 : decide (((s.take 8).bs.length : Int) / 8 < (q : Int)) = false := decide_eq_false (by omega)
    clear hto hmany
    go_enter Try.func62, Try.ntmps62
    go_wp2_with fail
    refine (mnum_any w base g s h hs).mono ?_
    rintro e w1 ⟨rfl, m1, o1⟩
    have HM := Lib.hid m1
    have HO := Lib.hid o1
    obtain ⟨A, c, k1, -⟩ := m1
    have hc0 : w1.cell? ⟨g, 0, none⟩ = some (.slice A (s.take 8).bs.length c) := by rw [k1.cell]; rfl
    have hc1 : w1.cell? ⟨g, 1, none⟩ = some (.bool false) := by rw [k1.cell, hbad]; rfl
    clear k1 o1
    go_wp2
    go_loopw [4, 5] (fun v i wr => ∃ k : Nat, k ≤ q ∧ i = .int .i64 k ∧ OwnI wr w.heap.size v k (RD.rows (s.take 8) k) ∧ Mr wr base g (RD.run k (s.take 8)) ∧ Only [g] w wr) (fun _ i _ => q - (intOf i).toNat)
    case atStart => exact ⟨0, Nat.zero_le _, rfl, World.ownsRow_nil _ _ _ _, HM.out, HO.out⟩
    case round =>
      obtain ⟨k, hk, rfl, hv, hm, ho⟩ := hrel
      by_cases hlt : k < q
      · obtain ⟨A1, c1, rfl, hA1⟩ := hv.form
        have hle2 : ∀ k, (RD.run k (s.take 8)).bs.length ≤ (s.take 8).bs.length := fun k => by
          induction k with
          | zero => exact Nat.le_refl _
          | succ k ih => exact Nat.le_trans (RD.take_le _ 8) ih
        have hlk := hle2 k
        have HV := Lib.hid hv
        have HM2 := Lib.hid hm
        have HO2 := Lib.hid ho
        clear hv hm ho hc0 hc1
        go_wp2_with fail
        refine (mnum_any wr base g _ HM2.out (by omega)).mono ?_
        rintro e w3 ⟨rfl, m3, o3⟩
        have hV3 : OwnI w3 w.heap.size (.slice A1 k c1) k (RD.rows (s.take 8) k) := row_of HV.out fun j hj => o3.block j (row_under HV.out j hj) (fun hm => by
          simp at hm
          subst hm
          have := row_over HV.out j hj
          omega)
        have HM3 := Lib.hid m3
        have HO3 := Lib.hid (HO2.out.trans o3 (Fresh.refl _ _))
        generalize hx : (RD.run k (s.take 8)).num = x at *
        have HX := Lib.hid hx
        have hV4 := Lib.hid (World.ownsRow.alloc hV3 (.cells (i64s [x]).toArray 3))
        have hnew : Ints (w3.alloc (.cells (i64s [x]).toArray 3)) (w3.heap.size + 1) (some ⟨w3.heap.size, 0, none⟩) 1 [x] := Reads.new w3 (i64s [x]) 3 (0, 0)
        have hsz : w.heap.size ≤ (w3.alloc (.cells (i64s [x]).toArray 3)).heap.size := Nat.le_trans HO3.out.size (by simp)
        clear m3 o3 hV3 hx
        go_wp2_with (refine app_int (.tmp 37) (.tmp 40) rfl rfl w.heap.size (.slice A1 k c1) k (RD.rows (s.take 8) k) rfl hV4.out _ _ 1 1 [x] rfl hnew (by omega) hsz ?_
                     intro v5 w5 h5 g5 a5)
        go_roundw
        case rel =>
          have hgo : ∀ j, (Value.slice A1 k c1).ownBlock = some j → w.heap.size ≤ j := fun j hj => (World.ownsRow.lt hV4.out j hj).1
          have o5 : Only [g] w w5 := (HO3.out.alloc _).grown g5 (fun j hj => .inr (hgo j hj))
          refine ⟨k + 1, by omega, by go_num, ?_, ?_, o5⟩
          · rw [RD.rows, HX.out]; exact h5
          · have m4 := HM3.out.below (below_alloc w3 (.cells (i64s [x]).toArray 3))
            refine m4.of ?_ ?_
            · exact ⟨g5.os, g5.tape, g5.output, g5.size, fun j hj => g5.block j (Nat.lt_of_lt_of_le (Nat.lt_trans (Nat.lt_of_lt_of_le hj m4.over) m4.lt) (Nat.le_refl _)) (fun e => by
                have := hgo j e.symm
                have := m4.over
                omega)⟩
            · exact g5.block g m4.lt (fun e => by have := hgo g e.symm; omega)
        case measure => simp [intOf]; omega
      · obtain rfl : k = q := by omega
        have HV := Lib.hid hv
        clear hv
        go_wp2
        go_ret
        exact ⟨_, rfl, HV.out, hm, ho⟩
  · have hto : s.numsTo = RD.spoilt ∧ s.nums = [] := by simp [RD.numsTo, RD.nums, hmany]
    rw [hto.1, hto.2]
    have hcase : (s.take 8).bad = true ∨ ((s.take 8).bad = false ∧ (s.num < 0 ∨ (0 ≤ s.num ∧ (((s.take 8).bs.length / 8 : Nat) : Int) < s.num))) := by
      cases hb : (s.take 8).bad with
      | true => exact .inl rfl
      | false =>
        refine .inr ⟨rfl, ?_⟩
        simp [RD.many, hb] at hmany
        rcases Int.lt_or_le s.num 0 with h | h
        · exact .inl h
        · exact .inr ⟨h, by have := hmany h; omega⟩
    clear hto hmany
    go_enter Try.func62, Try.ntmps62
    go_wp2_with fail
    refine (mnum_any w base g s h hs).mono ?_
    rintro e w1 ⟨rfl, m1, o1⟩
    have HSP := Lib.hid (mspoil_cells m1)
    have HO := Lib.hid o1
    obtain ⟨A, c, k1, -⟩ := m1
    have hc0 : w1.cell? ⟨g, 0, none⟩ = some (.slice A (s.take 8).bs.length c) := by rw [k1.cell]; rfl
    have hc1 : w1.cell? ⟨g, 1, none⟩ = some (.bool (s.take 8).bad) := by rw [k1.cell]; rfl
    have hf0 : w1.frozen? ⟨g, 0, none⟩ = false := k1.frozen _
    have hf1 : w1.frozen? ⟨g, 1, none⟩ = false := k1.frozen _
    clear k1 o1
    rcases hcase with hb | ⟨hb, hn | ⟨hn0, hn⟩⟩
    · rw [hb] at hc1
      go_wp2
      go_ret
      exact ⟨_, rfl, World.ownsRow_nil _ _ _ _, HSP.out.1, HO.out.trans HSP.out.2 (Fresh.refl _ _)⟩
    · rw [hb] at hc1
      have hd : decide (s.num < 0) = true := decide_eq_true hn
      go_wp2
      go_ret
      exact ⟨_, rfl, World.ownsRow_nil _ _ _ _, HSP.out.1, HO.out.trans HSP.out.2 (Fresh.refl _ _)⟩
    · rw [hb] at hc1
      have hd : decide (s.num < 0) = false := decide_eq_false (by omega)
      have hd2 : decide (((s.take 8).bs.length : Int) / 8 < s.num) = true := decide_eq_true (by omega)
      go_wp2
      go_ret
      exact ⟨_, rfl, World.ownsRow_nil _ _ _ _, HSP.out.1, HO.out.trans HSP.out.2 (Fresh.refl _ _)⟩
end Go.Proofs.Ytjepfeagbiceoaa
