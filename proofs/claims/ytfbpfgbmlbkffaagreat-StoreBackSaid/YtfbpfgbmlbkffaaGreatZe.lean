/-
  Bytes are written into an object. Conditions: its cells hold what they are said to; its bytes lie in a row of the call's own, those that are written elsewhere.
-/
import Derived.Test.YtfbpfgbmlbkffaaGreatZd

namespace Go.Proofs.YtfbpfgbmlbkffaaGreat
open Go.RowKit Go.BigFrame
set_option linter.unusedSimpArgs false
set_option linter.unusedVariables false
set_option maxRecDepth 100000
def writeB (bs : List Nat) (at_ : Nat) (nb : List Nat) : List Nat :=
  if nb.length = 0 then bs else (resizeB bs (max bs.length (at_ + nb.length))).take at_ ++ nb ++ (resizeB bs (max bs.length (at_ + nb.length))).drop (at_ + nb.length)
theorem set_same {cs : Array Value} {i : Nat} {v : Value} (h : cs[i]? = some v) : cs.setIfInBounds i v = cs := by
  apply Array.ext_getElem?
  intro j
  rw [Array.getElem?_setIfInBounds]
  split
  · rename_i e
    subst e
    have hl := (Array.getElem?_eq_some_iff.1 h).1
    rw [if_pos hl, h]
  · rfl
theorem own_copy {w : World} {base b n c at_ : Nat} {R nb : List Nat} (h : Own w base (.slice (some ⟨b, 0, none⟩) n c) n R) (hk : at_ + nb.length ≤ n) : ∃ cur : Array Value, Blk w b 5 cur ∧ at_ + nb.length ≤ cur.size ∧
    Own (w.setRow b (cur.toList.take at_ ++ u8s nb ++ cur.toList.drop (at_ + (u8s nb).length)).toArray) base (.slice (some ⟨b, 0, none⟩) n c) n (R.take at_ ++ nb ++ R.drop (at_ + nb.length)) ∧ Only [b] w (w.setRow b (cur.toList.take at_ ++ u8s nb ++ cur.toList.drop (at_ + (u8s nb).length)).toArray) := by
  obtain ⟨-, hl, -, -⟩ := own_len h
  rcases h.2 with ⟨e, h0⟩ | ⟨b', cap, cur, e, hb, hh, h1, h2, h3, h4⟩
  · cases e
  · injection e with e1 e2 e3
    injection e1 with e1
    injection e1 with e1
    subst e1 e3
    refine ⟨cur, hh, by omega, ⟨?_, .inr ⟨b, c, _, rfl, hb, setRow_heap w b cur _ 5 _ hh, h1, h2, ?_, ?_⟩⟩, ⟨rfl, rfl, rfl, by simp [World.setRow], fun k _ hk => setRow_other w b k _ (fun e => hk (by simp [e]))⟩⟩
    · rw [u8s_length]
      simp
      omega
    · simp [u8s_length]
      omega
    · have hcl : cur.toList.length = c := by simp; omega
      have h4' : cur.toList.take n = u8s R := by simpa using h4
      apply List.ext_getElem?
      intro j
      have hR : ∀ j, j < n → cur.toList[j]? = (u8s R)[j]? := fun j hj => by rw [← h4', List.getElem?_take, if_pos hj]
      have hu : u8s (R.take at_ ++ nb ++ R.drop (at_ + nb.length)) = (u8s R).take at_ ++ u8s nb ++ (u8s R).drop (at_ + nb.length) := by simp [u8s, List.map_take, List.map_drop]
      rw [hu, Nat.mul_one, List.getElem?_take]
      have hul : (u8s R).length = n := by rw [u8s_length]; exact hl
      by_cases hj : j < n
      · rw [if_pos hj]
        simp only [List.toList_toArray, List.getElem?_append, List.length_append, List.length_take, List.getElem?_take, List.getElem?_drop, u8s_length]
        rw [show min at_ cur.toList.length = at_ by omega, show min at_ R.length = at_ by omega]
        by_cases h5 : j < at_
        · rw [if_pos (by omega), if_pos h5, if_pos h5, if_pos (by omega), if_pos h5, if_pos h5]
          exact hR j hj
        · by_cases h6 : j < at_ + nb.length
          · rw [if_pos (by omega), if_neg h5, if_pos (by omega), if_neg h5]
          · rw [if_neg (by omega), if_neg (by omega)]
            rw [show at_ + nb.length + (j - (at_ + nb.length)) = j by omega]
            exact hR j hj
      · rw [if_neg hj, List.getElem?_eq_none]
        simp [u8s_length]
        omega
theorem Bytes.only_ {w w' : World} {B n : Nat} {A : Option Addr} {bs F : List Nat} (h : Bytes w B A n bs) (ho : Only F w w') (ha : ∀ a, A = some a → 0 < n → a.block ∉ F) : Bytes w' B A n bs :=
  ⟨⟨h.1.1, fun hn => by
    obtain ⟨ad, e, hB, hc⟩ := h.1.2 hn
    exact ⟨ad, e, hB, fun j u hu => (ho.cell (World.block_lt_of_cell? w _ (hc j u hu)) (by rw [block_of_add]; exact ha ad e hn)).trans (hc j u hu)⟩⟩, h.2⟩
/-- what write comes to -/
def WriteTo (w : World) (g : Nat) (t : TypeId) (cs : Array Value) (D : Option Addr) (m c base : Nat) (bs : List Nat) (at_ : Nat) (nb : List Nat) (e : Ending) (w' : World) : Prop :=
  e = .returned (.tuple #[]) ∧ ∃ D' n' c', Blk w' g t (cs.setIfInBounds 0 (.slice D' n' c')) ∧ Own w' base (.slice D' n' c') n' (writeB bs at_ nb) ∧ Only (g :: rowOf (.slice D m c)) w w' ∧ (D' = D ∨ ∃ b, D' = some ⟨b, 0, none⟩ ∧ w.heap.size ≤ b)
set_option maxHeartbeats 4000000 in
theorem write_any {w : World} {g base m c at_ B c2 : Nat} {t : TypeId} {cs : Array Value} {D A2 : Option Addr} {bs nb : List Nat} (hb : Blk w g t cs) (ht : t ≠ 5) (h0 : cs[0]? = some (.slice D m c)) (ho : Own w base (.slice D m c) m bs) (hbase : base ≤ w.heap.size)
    (hB : Bytes w B A2 nb.length nb) (hBl : B ≤ w.heap.size) (hfar : ∀ ad, A2 = some ad → ad.block ≠ g ∧ ad.block ∉ rowOf (.slice D m c)) (hat : at_ + nb.length ≤ 1000000) (hm : m ≤ 1000000) :
    Calls Tryz.prog 106 #[.pointer (some ⟨g, 0, none⟩), .int .i64 (at_ : Int), .slice A2 nb.length c2] w (WriteTo w g t cs D m c base bs at_ nb) := by
  have q0 : w.cell? ⟨g, 0, none⟩ = some (.slice D m c) := by rw [hb.cell]; exact h0
  obtain ⟨-, hl, hmc, hD⟩ := own_len ho
  by_cases hk : nb.length = 0
  · have hfin : WriteTo w g t cs D m c base bs at_ nb (.returned (.tuple #[])) w := ⟨rfl, D, m, c, by rw [set_same h0]; exact hb, by unfold writeB; rw [if_pos hk]; exact ho, Only.refl _ _, .inl rfl⟩
    have HFIN := Lib.hid hfin
    have hkb : ((nb.length : Int) == 0) = true := by simp [hk]
    have HK := Lib.hid hk
    clear hb h0 ho hB hfin hk
    go_enter Tryz.func106, Tryz.ntmps106
    go_wp2
    refine bodyPost_end (results_none rfl _ _ _) rfl ?_
    exact HFIN.out
  · obtain ⟨N, hN⟩ : ∃ N, N = max bs.length (at_ + nb.length) := ⟨_, rfl⟩
    have HRS := Lib.hid (resize_any (n := N) hb ht h0 ho hbase (by omega) hm)
    have hwa : IntKind.i64.wrap ((at_ : Int) + (nb.length : Int)) = ((at_ + nb.length : Nat) : Int) := by rw [IntKind.wrap_i64]; omega
    have hkb : ((nb.length : Int) == 0) = false := beq_eq_false_iff_ne.2 (by omega)
    have hs0 : cs.size ≠ 0 := fun e => by rw [Array.getElem?_eq_none (by omega)] at h0; cases h0
    have HB := Lib.hid hB
    have HFAR := Lib.hid hfar
    have HKN := Lib.hid hk
    have HNN := Lib.hid hN
    have HGL := Lib.hid hb.lt
    clear hb h0 ho hB hfar
    have tail : ∀ (w1 : World), ResizeTo w g t cs D m c base bs N (.returned (.tuple #[])) w1 → ∃ (b1 c1 : Nat) (W : World), w1.cell? ⟨g, 0, none⟩ = some (.slice (some ⟨b1, 0, none⟩) N c1) ∧
        (Instr.slice 22 (.slice (some ⟨b1, 0, none⟩) N c1) (some (.int .i64 (at_ : Int))) none none).run Tryz.prog w1 = .ok (.slice (some ⟨b1, at_, none⟩) (N - at_) (c1 - at_)) w1 ∧
        (Builtin.copy_ #[22, 22] 3 #[.slice (some ⟨b1, at_, none⟩) (N - at_) (c1 - at_), .slice A2 nb.length c2]).run Tryz.prog w1 = .ok (.int .i64 (nb.length : Int)) W ∧ WriteTo w g t cs D m c base bs at_ nb (.returned (.tuple #[])) W := by
      rintro w1 ⟨-, D1, c1, hb1, ho1, hon, hnew⟩
      have hNe := HNN.out
      obtain ⟨-, hl1, hnc, hD1⟩ := own_len ho1
      obtain ⟨b1, rfl⟩ : ∃ b1, D1 = some ⟨b1, 0, none⟩ := by
        rcases hD1 with rfl | h
        · rcases ho1.2 with ⟨e, e0⟩ | ⟨b', _, _, e, _⟩
          · omega
          · cases e
        · exact h
      have hB1 : Bytes w1 w1.heap.size A2 nb.length nb := (HB.out.only_ hon (fun ad hA hpos => by have := HFAR.out ad hA; simp; exact this)).more (Nat.le_trans hBl hon.size)
      obtain ⟨a2, rfl⟩ : ∃ a2, A2 = some a2 := by
        obtain ⟨ad, e, _⟩ := HB.out.1.2 (by omega)
        exact ⟨ad, e⟩
      obtain ⟨cur, hcur, hfit, hown2, hon2⟩ := own_copy (at_ := at_) (nb := nb) ho1 (by omega)
      have hcp := run_copy_row (P := Tryz.prog) w1 22 22 3 5 b1 at_ (N - at_) (c1 - at_) a2 nb.length c2 cur 5 (u8s nb) Tryz.underlying22 (by kernel_rfl) hcur (by rw [u8s_length]; exact (Nat.min_eq_left (by omega)).symm) (fun j u hu => by
        obtain ⟨ad, e, _, hc⟩ := hB1.1.2 (by omega)
        injection e with e
        subst e
        exact hc j u hu) (by rw [u8s_length]; exact hfit) (oneCell_u8s _)
      have hne : g ≠ b1 := hb1.ne_ hcur ht
      refine ⟨b1, c1, _, ?_, ?_, ?_, rfl, some ⟨b1, 0, none⟩, N, c1, hb1.of (hon2.block g hb1.lt (by simp; exact hne)), ?_, hon.trans hon2 (fun k hk => by
        simp at hk
        subst hk
        rcases hnew with e | ⟨b2, e, hb2⟩
        · left; simp [mem_rowOf, ← e, Value.ownBlock]
        · injection e with e; injection e with e; subst e; exact .inr hb2), hnew⟩
      · rw [hb1.cell, Array.getElem?_setIfInBounds_self_of_lt (by omega)]
      · rw [run_cut_bytes (some ⟨b1, 0, none⟩) N c1 at_ (by omega), if_neg (by omega), Option.map_some, Nat.mul_one, add_zero_off]
      · rw [hcp, u8s_length]
        rfl
      · unfold writeB
        rw [if_neg HKN.out, ← hNe]
        exact hown2
    have HTL := Lib.hid tail
    clear tail
    by_cases hmx : at_ + nb.length ≤ m
    · have hNm : N = m := by omega
      have hd : decide (((at_ + nb.length : Nat) : Int) ≤ (m : Int)) = true := decide_eq_true (by omega)
      have hd2 : decide ((m : Int) < ((at_ + nb.length : Nat) : Int)) = false := decide_eq_false (by omega)
      subst hNm
      clear hN
      generalize hak : at_ + nb.length = ak at *
      go_enter Tryz.func106, Tryz.ntmps106
      go_wp2_with fail
      refine HRS.out.mono ?_
      rintro e w1 hr
      obtain rfl := hr.1
      obtain ⟨b1, c1, W, x0, x1, x2, hfin⟩ := HTL.out w1 hr
      have HFIN := Lib.hid hfin
      clear hr hfin HTL HRS
      go_wp2
      refine bodyPost_end (results_none rfl _ _ _) rfl ?_
      exact HFIN.out
    · have hNm : N = at_ + nb.length := by omega
      have hd : decide (((at_ + nb.length : Nat) : Int) ≤ (m : Int)) = false := decide_eq_false (by omega)
      have hd2 : decide ((m : Int) < ((at_ + nb.length : Nat) : Int)) = true := decide_eq_true (by omega)
      subst hNm
      clear hN
      generalize hak : at_ + nb.length = ak at *
      go_enter Tryz.func106, Tryz.ntmps106
      go_wp2_with fail
      refine HRS.out.mono ?_
      rintro e w1 hr
      obtain rfl := hr.1
      obtain ⟨b1, c1, W, x0, x1, x2, hfin⟩ := HTL.out w1 hr
      have HFIN := Lib.hid hfin
      clear hr hfin HTL HRS
      go_wp2
      refine bodyPost_end (results_none rfl _ _ _) rfl ?_
      exact HFIN.out
end Go.Proofs.YtfbpfgbmlbkffaaGreat

/-
  A store on its memory: New, the object of a name, Block, Blocked, Free. Conditions: a store's cells hold what they are said to.
-/
namespace Go.Proofs.YtfbpfgbmlbkffaaGreat
open Go.RowKit Go.BigFrame
set_option linter.unusedSimpArgs false
set_option linter.unusedVariables false
set_option maxRecDepth 100000
def keyB (bs : List Nat) : Key := bs.map UInt8.ofNat
theorem strOf_data_ (bs : List Nat) : (strOf bs).data.toList = bs.map UInt8.ofNat := by
  simp [strOf, strOfNums]
theorem keyB_val (bs : List Nat) : keyV (keyB bs) = .string (strOf bs) := by
  unfold keyV keyB
  congr 1
  rw [← strOf_data_]
/-- a store's cells -/
def stC (ms : Nat) (bl : List Bool) (gp : Nat) : Array Value := (Value.map (some ms) :: (bl.map Value.bool ++ [.pointer (some ⟨gp, 0, none⟩)])).toArray
structure StAt (w : World) (gs ms gp r c : Nat) (A : Option Addr) (bl fl : List Bool) (kv : KV) : Prop where
  blk : Blk w gs 67 (stC ms bl gp)
  len : bl.length = 8
  map : SMap Tryz.prog 9 w ms kv
  sp : SAt w gp r A c fl (cnt fl)
  ne : gp ≠ r
section
variable {w : World} {gs ms gp r c : Nat} {A : Option Addr} {bl fl : List Bool} {kv : KV}
theorem StAt.c0 (h : StAt w gs ms gp r c A bl fl kv) : w.cell? ⟨gs, 0, none⟩ = some (.map (some ms)) := by rw [h.blk.cell]; simp [stC]
theorem StAt.c9 (h : StAt w gs ms gp r c A bl fl kv) : w.cell? ⟨gs, 9, none⟩ = some (.pointer (some ⟨gp, 0, none⟩)) := by
  rw [h.blk.cell]
  simp only [stC, List.getElem?_toArray]
  rw [List.getElem?_cons_succ, List.getElem?_append_right (by simp [h.len])]
  simp [h.len]
theorem StAt.cb (h : StAt w gs ms gp r c A bl fl kv) {j : Nat} {b : Bool} (hj : bl[j]? = some b) : w.cell? ⟨gs, 1 + j, none⟩ = some (.bool b) := by
  have hl := (List.getElem?_eq_some_iff.1 hj).1
  rw [h.blk.cell]
  simp only [stC, List.getElem?_toArray]
  rw [Nat.add_comm, List.getElem?_cons_succ, List.getElem?_append_left (by simpa using hl)]
  simp [hj]
theorem object_any (h : StAt w gs ms gp r c A bl fl kv) (bs : List Nat) (hl : bs.length ≤ 1000000) :
    Calls Tryz.prog 52 #[.pointer (some ⟨gs, 0, none⟩), .string (strOf bs)] w fun e w' => e = .returned ((aget kv (keyB bs)).getD (.pointer none)) ∧ w = w' := by
  have q0 := h.c0
  have hz : (zeroValue 109).run Tryz.prog w = .ok (.pointer none) w := by kernel_rfl
  have hlk := run_lookup_smap (P := Tryz.prog) (t := 64) (et := 109) Tryz.underlying9 Tryz.underlying64 hz h.map (keyB bs) (by simp [keyB, maxLen]; omega)
  rw [keyB_val] at hlk
  clear h
  generalize (aget kv (keyB bs)).getD (.pointer none) = v at *
  go_enter Tryz.func52, Tryz.ntmps52
  go_wp2
  go_ret
  exact ⟨rfl, rfl⟩
theorem object_nil (w : World) (s : ByteArray) : Calls Tryz.prog 52 #[.pointer none, .string s] w fun e w' => e = .returned (.pointer none) ∧ w = w' := by
  go_enter Tryz.func52, Tryz.ntmps52
  go_wp2
  go_ret
  exact ⟨rfl, rfl⟩
theorem stfree_any (h : StAt w gs ms gp r c A bl fl kv) : Calls Tryz.prog 21 #[.pointer (some ⟨gs, 0, none⟩)] w fun e w' => e = .returned (.int .i64 (cnt fl)) ∧ w = w' := by
  have q9 := h.c9
  have HF := Lib.hid (sfree_any h.sp.blk)
  clear h
  go_enter Tryz.func21, Tryz.ntmps21
  go_wp2_with fail
  refine HF.out.mono ?_
  rintro e w' ⟨rfl, rfl⟩
  go_wp2
  go_ret
  exact ⟨rfl, rfl⟩
end
end Go.Proofs.YtfbpfgbmlbkffaaGreat

/-
  A store on its memory: New, Block, Blocked, Size. Conditions: a store's cells hold what they are said to.
-/
namespace Go.Proofs.YtfbpfgbmlbkffaaGreat
open Go.RowKit Go.BigFrame
set_option linter.unusedSimpArgs false
set_option linter.unusedVariables false
set_option maxRecDepth 100000
def flags8 : List Bool := List.replicate 8 false
theorem stnew_bad (n : Int) (h : n < 0 ∨ 65536 < n) (w : World) : Calls Tryz.prog 14 #[.int .i64 n] w fun e w' => e = .returned (.tuple #[.pointer none, errV 1]) ∧ w = w' := by
  have HN := Lib.hid (snew_bad n h w)
  simp only [errV] at HN ⊢
  go_enter Tryz.func14, Tryz.ntmps14
  go_wp2_with fail
  refine HN.out.mono ?_
  rintro e w' ⟨rfl, rfl⟩
  go_wp2
  go_ret2
  exact ⟨rfl, rfl⟩
/-- a new store -/
def NewSt (w : World) (fl : List Bool) (p : Value) (w' : World) : Prop := ∃ gs ms gp r c A, p = .pointer (some ⟨gs, 0, none⟩) ∧ StAt w' gs ms gp r c A flags8 fl [] ∧ w.heap.size ≤ gs ∧ w.heap.size ≤ ms ∧ w.heap.size ≤ gp ∧ w.heap.size ≤ r ∧ Below w.heap.size w w'
theorem stnew_any (n : Nat) (hn : n ≤ 65536) (w : World) : Calls Tryz.prog 14 #[.int .i64 n] w fun e w' => ∃ p, e = .returned (.tuple #[p, .nilIface]) ∧ NewSt w (List.replicate n true) p w' := by
  have HN := Lib.hid (snew_any n hn w)
  have hmm := @run_makeMap Tryz.prog
  have hbd : ∀ (m gp : Nat) (w : World), (Instr.build 67 #[(0, .map (some m)), (2, .pointer (some ⟨gp, 0, none⟩))]).run Tryz.prog w = .ok (.agg (stC m flags8 gp)) w := fun m gp w => by kernel_rfl
  go_enter Tryz.func14, Tryz.ntmps14
  go_wp2_with fail
  refine HN.out.mono ?_
  rintro e w1 ⟨p, rfl, gp, r, A, c, rfl, hs, hne, hg, hr, hb⟩
  have m1 : SMap Tryz.prog 9 (w1.alloc (.map #[] 0)) w1.heap.size [] := SMap.new w1
  have K2 := Blk.new (w1.alloc (.map #[] 0)) 67 (stC w1.heap.size flags8 gp)
  have s1 : (w1.alloc (.map #[] 0)).heap.size = w1.heap.size + 1 := World.size_alloc _ _
  rw [s1] at K2
  have hz := hb.size
  have hb2 : Below w.heap.size w ((w1.alloc (.map #[] 0)).alloc (.cells (stC w1.heap.size flags8 gp) 67)) := (hb.alloc hz _).alloc (by rw [s1]; omega) _
  have hs2 : SAt ((w1.alloc (.map #[] 0)).alloc (.cells (stC w1.heap.size flags8 gp) 67)) gp r A c (List.replicate n true) (cnt (List.replicate n true)) := hs.of (by rw [Below.heap_alloc _ _ _ (by have := hs.blk.lt; rw [s1]; omega), Below.heap_alloc _ _ _ hs.blk.lt]) (fun t cs hx => by rw [Below.heap_alloc _ _ _ (by have := hx.lt; rw [s1]; omega), Below.heap_alloc _ _ _ hx.lt])
  have hm2 : SMap Tryz.prog 9 ((w1.alloc (.map #[] 0)).alloc (.cells (stC w1.heap.size flags8 gp) 67)) w1.heap.size [] := m1.of (Below.heap_alloc _ _ _ m1.lt)
  have HF := Lib.hid (show NewSt w (List.replicate n true) (.pointer (some ⟨w1.heap.size + 1, 0, none⟩)) ((w1.alloc (.map #[] 0)).alloc (.cells (stC w1.heap.size flags8 gp) 67)) from ⟨_, w1.heap.size, gp, r, c, A, rfl, ⟨K2, rfl, hm2, hs2, hne⟩, by omega, hz, hg, hr, hb2⟩)
  clear hs hne hg hr hb m1 K2 hb2 hs2 hm2 HN
  go_wp2
  go_ret2
  exact ⟨_, rfl, HF.out⟩
section
variable {w : World} {gs ms gp r c : Nat} {A : Option Addr} {bl fl : List Bool} {kv : KV}
theorem stset_flag (h : StAt w gs ms gp r c A bl fl kv) {j : Nat} (hj : j < 8) (hr : fl ≠ [] → r ≠ gs) : StAt (w.setCell ⟨gs, 1 + j, none⟩ (.bool true)) gs ms gp r c A (bl.set j true) fl kv := by
  have hm : ms ≠ gs := h.map.ne_blk h.blk
  have hg : gp ≠ gs := h.sp.blk.ne_ h.blk (by decide)
  refine ⟨?_, by rw [List.length_set]; exact h.len, h.map.of (Below.heap_setCell _ _ _ _ hm), ⟨h.sp.blk.of (Below.heap_setCell _ _ _ _ hg), h.sp.cap, h.sp.lim, ?_⟩, h.ne⟩
  · have := h.blk.set_ (1 + j) (.bool true)
    have e : (stC ms bl gp).setIfInBounds (1 + j) (.bool true) = stC ms (bl.set j true) gp := by
      have hl := h.len
      unfold stC
      rw [List.setIfInBounds_toArray, Nat.add_comm, List.set_cons_succ, List.set_append_left _ _ (by simp; omega), List.map_set]
    rwa [e] at this
  · rcases h.sp.row with e | ⟨e, cs, hb, hc⟩
    · exact .inl e
    · exact .inr ⟨e, cs, hb.of (Below.heap_setCell _ _ _ _ (hb.ne_ h.blk (by decide))), hc⟩
/-- what Block answers -/
def blockE (n : Int) : Value := if isClientB n then .nilIface else errV 1
/-- the blocked flags, one more -/
def blockAt (bl : List Bool) (n : Int) : List Bool := if isClientB n then bl.set n.toNat true else bl
theorem block_any (h : StAt w gs ms gp r c A bl fl kv) (n : Int) : Calls Tryz.prog 15 #[.pointer (some ⟨gs, 0, none⟩), .int .i64 n] w fun e w' => e = .returned (blockE n) ∧ StAt w' gs ms gp r c A (blockAt bl n) fl kv ∧ Only [gs] w w' := by
  by_cases hc : isClientB n = true
  · obtain ⟨j, rfl, hj⟩ : ∃ j : Nat, n = j ∧ j < 8 := by
      simp [isClientB] at hc
      exact ⟨n.toNat, by omega, by omega⟩
    have hx : ∃ b, bl[j]? = some b := ⟨_, List.getElem?_eq_getElem (by rw [h.len]; exact hj)⟩
    obtain ⟨b, hb⟩ := hx
    have q := h.cb hb
    have f := h.blk.frozen (1 + j)
    have hS : StAt (w.setCell ⟨gs, 1 + j, none⟩ (.bool true)) gs ms gp r c A (bl.set j true) fl kv := stset_flag h hj (fun hf => by
      rcases h.sp.row with e | ⟨_, cs, hb', _⟩
      · exact absurd e hf
      · exact hb'.ne_ h.blk (by decide))
    have HF := Lib.hid (And.intro hS (show Only [gs] w (w.setCell ⟨gs, 1 + j, none⟩ (.bool true)) from (Only.refl _ _).setCell (.inl (by simp)) _))
    have HI := Lib.hid (isClient_any (j : Int) w)
    have HC := Lib.hid hc
    have hj2 : (j : Int) < 8 := by omega
    clear h hS hb hc
    go_enter Tryz.func15, Tryz.ntmps15
    go_wp2_with fail
    refine HI.out.mono ?_
    rintro e w' ⟨rfl, rfl⟩
    rw [HC.out]
    clear HI
    go_wp2
    go_ret
    refine ⟨by unfold blockE; rw [if_pos HC.out]; rfl, ?_, HF.out.2⟩
    unfold blockAt
    rw [if_pos HC.out]
    exact HF.out.1
  · have hc' : isClientB n = false := by simpa using hc
    have HF := Lib.hid h
    have HI := Lib.hid (isClient_any n w)
    have HC := Lib.hid hc'
    clear h hc hc'
    go_enter Tryz.func15, Tryz.ntmps15
    go_wp2_with fail
    refine HI.out.mono ?_
    rintro e w' ⟨rfl, rfl⟩
    rw [HC.out]
    clear HI
    go_wp2
    go_ret
    refine ⟨by unfold blockE; rw [HC.out]; rfl, ?_, Only.refl _ _⟩
    unfold blockAt
    rw [HC.out]
    exact HF.out
theorem blocked_any (h : StAt w gs ms gp r c A bl fl kv) (n : Int) : Calls Tryz.prog 37 #[.pointer (some ⟨gs, 0, none⟩), .int .i64 n] w fun e w' => e = .returned (.bool (isClientB n && bl.getD n.toNat false)) ∧ w = w' := by
  by_cases hc : isClientB n = true
  · obtain ⟨j, rfl, hj⟩ : ∃ j : Nat, n = j ∧ j < 8 := by
      simp [isClientB] at hc
      exact ⟨n.toNat, by omega, by omega⟩
    obtain ⟨b, hb⟩ : ∃ b, bl[j]? = some b := ⟨_, List.getElem?_eq_getElem (by rw [h.len]; exact hj)⟩
    have q := h.cb hb
    have HI := Lib.hid (isClient_any (j : Int) w)
    have HC := Lib.hid hc
    have HB := Lib.hid hb
    have hj2 : (j : Int) < 8 := by omega
    clear h hb hc
    go_enter Tryz.func37, Tryz.ntmps37
    go_wp2_with fail
    refine HI.out.mono ?_
    rintro e w' ⟨rfl, rfl⟩
    rw [HC.out]
    clear HI
    go_wp2
    go_ret
    refine ⟨?_, rfl⟩
    rw [HC.out, Bool.true_and, Int.toNat_natCast, List.getD_eq_getElem?_getD, HB.out]
    rfl
  · have hc' : isClientB n = false := by simpa using hc
    have HI := Lib.hid (isClient_any n w)
    have HC := Lib.hid hc'
    clear h hc hc'
    go_enter Tryz.func37, Tryz.ntmps37
    go_wp2_with fail
    refine HI.out.mono ?_
    rintro e w' ⟨rfl, rfl⟩
    rw [HC.out]
    clear HI
    go_wp2
    go_ret
    refine ⟨?_, rfl⟩
    rw [HC.out]
    rfl
theorem size_there (h : StAt w gs ms gp r c A bl fl kv) (bs : List Nat) (hl : bs.length ≤ 1000000) {go m cd : Nat} {D : Option Addr} (hv : aget kv (keyB bs) = some (.pointer (some ⟨go, 0, none⟩))) (h0 : w.cell? ⟨go, 0, none⟩ = some (.slice D m cd)) :
    Calls Tryz.prog 22 #[.pointer (some ⟨gs, 0, none⟩), .string (strOf bs)] w fun e w' => e = .returned (.int .i64 m) ∧ w = w' := by
  have HO := Lib.hid (object_any h bs hl)
  rw [hv, Option.getD_some] at HO
  clear h hv
  go_enter Tryz.func22, Tryz.ntmps22
  go_wp2_with fail
  refine HO.out.mono ?_
  rintro e w' ⟨rfl, rfl⟩
  go_wp2
  go_ret
  exact ⟨rfl, rfl⟩
theorem size_none (h : StAt w gs ms gp r c A bl fl kv) (bs : List Nat) (hl : bs.length ≤ 1000000) (hv : aget kv (keyB bs) = none) :
    Calls Tryz.prog 22 #[.pointer (some ⟨gs, 0, none⟩), .string (strOf bs)] w fun e w' => e = .returned (.int .i64 (-1)) ∧ w = w' := by
  have HO := Lib.hid (object_any h bs hl)
  rw [hv, Option.getD_none] at HO
  clear h hv
  go_enter Tryz.func22, Tryz.ntmps22
  go_wp2_with fail
  refine HO.out.mono ?_
  rintro e w' ⟨rfl, rfl⟩
  go_wp2
  go_ret
  exact ⟨rfl, rfl⟩
end
end Go.Proofs.YtfbpfgbmlbkffaaGreat

/-
  An object lets its last blocks go. Conditions: its cells hold what they are said to; its extents lie in a row of its own; they have as many blocks.
-/
namespace Go.Proofs.YtfbpfgbmlbkffaaGreat
open Go.RowKit Go.BigFrame
set_option linter.unusedSimpArgs false
set_option linter.unusedVariables false
set_option maxRecDepth 100000
/-- what is left, the last one first, and what goes -/
def shedR : List (Nat × Nat) → Nat → List (Nat × Nat) × List (Nat × Nat)
  | r, 0 => (r, [])
  | [], _ + 1 => ([], [])
  | (x, y) :: r, n + 1 => if n + 1 < y then ((x, y - (n + 1)) :: r, [(x + (y - (n + 1)), n + 1)]) else ((shedR r (n + 1 - y)).1, (x, y) :: (shedR r (n + 1 - y)).2)
theorem shedR_zero (r : List (Nat × Nat)) : shedR r 0 = (r, []) := by cases r <;> rfl
theorem shedR_part {x y n : Nat} {r : List (Nat × Nat)} (h0 : 0 < n) (h : n < y) : shedR ((x, y) :: r) n = ((x, y - n) :: r, [(x + (y - n), n)]) := by
  obtain ⟨k, rfl⟩ : ∃ k, n = k + 1 := ⟨n - 1, by omega⟩
  rw [shedR, if_pos h]
theorem shedR_whole {x y n : Nat} {r : List (Nat × Nat)} (h0 : 0 < n) (h : y ≤ n) : shedR ((x, y) :: r) n = ((shedR r (n - y)).1, (x, y) :: (shedR r (n - y)).2) := by
  obtain ⟨k, rfl⟩ : ∃ k, n = k + 1 := ⟨n - 1, by omega⟩
  rw [shedR, if_neg (by omega)]
theorem OwnE.relen {w : World} {base g c : Nat} {r : List (Int × Int)} {x y : Int} (h : OwnE w base (.slice (some ⟨g, 0, none⟩) (r ++ [(x, y)]).length c) (r ++ [(x, y)])) (z : Int) :
    OwnE (w.setCell ⟨g, r.length * 2 + 1, none⟩ (.int .i64 z)) base (.slice (some ⟨g, 0, none⟩) (r ++ [(x, z)]).length c) (r ++ [(x, z)]) ∧ w.cell? ⟨g, r.length * 2, none⟩ = some (.int .i64 x) ∧ w.cell? ⟨g, r.length * 2 + 1, none⟩ = some (.int .i64 y) ∧ w.frozen? ⟨g, r.length * 2 + 1, none⟩ = false := by
  have e : ∀ u, extS (r ++ [(x, u)]) = extS r ++ [.int .i64 x, .int .i64 u] := fun u => by simp [extS, ext1]
  have hl := extS_len r
  have h1 := (World.ownsRow.stored h (r.length * 2 + 1) (.int .i64 z)).1
  have h2 := World.ownsRow.cellAt h (r.length * 2 + 1) (by simp; omega)
  have h4 := World.ownsRow.cellAt h (r.length * 2) (by simp)
  have h3 := World.ownsRow.frozenAt h (r.length * 2 + 1)
  rw [e] at h1 h2 h4
  rw [List.set_append_right _ _ (by omega), hl, show r.length * 2 + 1 - r.length * 2 = 1 by omega] at h1
  rw [List.getElem?_append_right (by omega), hl, show r.length * 2 + 1 - r.length * 2 = 1 by omega] at h2
  rw [List.getElem?_append_right (by omega), hl, Nat.sub_self] at h4
  refine ⟨?_, h4, h2, h3⟩
  unfold OwnE
  rw [e]
  simpa using h1
theorem OwnE.init {w : World} {base g c : Nat} {r : List (Int × Int)} {e : Int × Int} (h : OwnE w base (.slice (some ⟨g, 0, none⟩) (r ++ [e]).length c) (r ++ [e])) : OwnE w base (.slice (some ⟨g, 0, none⟩) r.length c) r := by
  rcases h.2 with ⟨e1, h0⟩ | ⟨b, cap, cur, e1, hb, hh, h1, h2, h3, h4⟩
  · cases e1
  · injection e1 with a1 a2 a3
    injection a1 with a1
    injection a1 with a1
    subst a1 a3
    refine ⟨by rw [extS_len], .inr ⟨g, c, cur, rfl, hb, hh, by simp at h1; omega, h2, h3, ?_⟩⟩
    have e2 : extS (r ++ [e]) = extS r ++ ext1 e := by simp [extS]
    rw [e2] at h4
    have := congrArg (List.take (r.length * 2)) h4
    rw [List.take_take, List.take_left' (extS_len r)] at this
    rw [← this]
    congr 1
    simp
/-- in the midst of it -/
structure Shed (w wr : World) (g b c base : Nat) (t : TypeId) (cs : Array Value) (lv : Value) (r out : List (Nat × Nat)) (nn : Nat) : Prop where
  blk : Blk wr g t (cs.setIfInBounds 2 (.slice (some ⟨b, 0, none⟩) r.length c))
  ext : OwnE wr base (.slice (some ⟨b, 0, none⟩) r.length c) (natE r.reverse)
  own : OwnE wr w.heap.size lv (natE out)
  only : Only [g, b] w wr
theorem run_head_exts (b n c i : Nat) (h : i ≤ c) (w : World) : (Instr.slice 74 (.slice (some ⟨b, 0, none⟩) n c) none (some (.int .i64 (i : Int))) none).run Tryz.prog w = .ok (.slice (some ⟨b, 0, none⟩) i c) w := by
  rw [run_head_ext (some ⟨b, 0, none⟩) n c i h w]
  split <;> simp [Addr.add]
/-- what shed comes to -/
def ShedTo (w : World) (g b c base : Nat) (t : TypeId) (cs : Array Value) (es : List (Nat × Nat)) (n : Nat) (e : Ending) (w' : World) : Prop :=
  ∃ lv, e = .returned lv ∧ Blk w' g t (cs.setIfInBounds 2 (.slice (some ⟨b, 0, none⟩) (shedR es.reverse n).1.length c)) ∧ OwnE w' base (.slice (some ⟨b, 0, none⟩) (shedR es.reverse n).1.length c) (natE (shedR es.reverse n).1.reverse) ∧ OwnE w' w.heap.size lv (natE (shedR es.reverse n).2) ∧ Only [g, b] w w'
end Go.Proofs.YtfbpfgbmlbkffaaGreat

/-
  An object lets its last blocks go: the walk. Conditions: its cells hold what they are said to; its extents lie in a row of its own; they have as many blocks.
-/
namespace Go.Proofs.YtfbpfgbmlbkffaaGreat
open Go.RowKit Go.BigFrame
set_option linter.unusedSimpArgs false
set_option linter.unusedVariables false
set_option maxRecDepth 100000
theorem cell_alloc_lt2 {w : World} {o : Obj} {p : Addr} {v : Value} (h : w.cell? p = some v) : (w.alloc o).cell? p = some v := by
  rw [World.cell?_alloc_lt w o p (World.block_lt_of_cell? w p h)]
  exact h
/-- one round: the last extent is told anew, what goes is appended -/
theorem Shed.step {w wo w' : World} {g b c base nn k : Nat} {t : TypeId} {cs : Array Value} {lv v' : Value} {r' out : List (Nat × Nat)} {x y z p q : Nat} {o : Obj} (h : Shed w wo g b c base t cs lv ((x, y) :: r') out nn) (hbl : b < w.heap.size) (hgl : g < w.heap.size) (hbg : b ≠ g)
    (hnew : OwnE (wo.setCell ⟨b, k * 2 + 1, none⟩ (.int .i64 (z : Int))) base (.slice (some ⟨b, 0, none⟩) (natE r'.reverse ++ [((x : Int), (z : Int))]).length c) (natE r'.reverse ++ [((x : Int), (z : Int))]))
    (hg : (((wo.setCell ⟨b, k * 2 + 1, none⟩ (.int .i64 (z : Int))).drew).alloc o).grownBy w' lv.ownBlock) (hown : OwnE w' w.heap.size v' (natE out ++ [((p : Int), (q : Int))])) :
    (∀ j, Shed w w' g b c base t cs v' ((x, z) :: r') (out ++ [(p, q)]) j) ∧ w'.cell? ⟨b, r'.length * 2, none⟩ = some (.int .i64 (x : Int)) ∧ w'.cell? ⟨b, r'.length * 2 + 1, none⟩ = some (.int .i64 (z : Int)) := by
  have hs := h.only.size
  have hob : ∀ k2, lv.ownBlock = some k2 → w.heap.size ≤ k2 := fun k2 hk2 => (World.ownsRow.lt h.own k2 hk2).1
  have hb' : some b ≠ lv.ownBlock := fun e => by have := hob b e.symm; omega
  have hg' : some g ≠ lv.ownBlock := fun e => by have := hob g e.symm; omega
  have hbw : w'.heap[b]? = (wo.setCell ⟨b, k * 2 + 1, none⟩ (.int .i64 (z : Int))).heap[b]? := by
    rw [hg.block b (by simp [World.alloc, World.setCell, World.drew]; omega) hb']
    exact Below.heap_alloc _ _ b (by simp [World.setCell, World.drew]; omega)
  have e1 : natE ((x, z) :: r').reverse = natE r'.reverse ++ [((x : Int), (z : Int))] := by simp [natE]
  have e2 : ((x, z) :: r').length = (natE r'.reverse ++ [((x : Int), (z : Int))]).length := by simp [natE]
  have hE : OwnE w' base (.slice (some ⟨b, 0, none⟩) (natE r'.reverse ++ [((x : Int), (z : Int))]).length c) (natE r'.reverse ++ [((x : Int), (z : Int))]) := row_of hnew fun k2 hk2 => by
    have e := mem_rowOf.1 hk2
    injection e with e
    subst e
    exact hbw
  refine ⟨fun j => ⟨?_, by rw [e1, e2]; exact hE, ?_, ?_⟩, ?_⟩
  · have h1 : Blk (wo.setCell ⟨b, k * 2 + 1, none⟩ (.int .i64 (z : Int))) g t (cs.setIfInBounds 2 (.slice (some ⟨b, 0, none⟩) ((x, y) :: r').length c)) := (Below.heap_setCell _ _ _ _ (Ne.symm hbg)).trans h.blk
    exact (h1.drew.alloc o).grown hg hg'
  · simpa [natE] using hown
  · refine Only.grown (Only.alloc ((h.only.setCell (.inl (by simp)) _).drew) o) hg (fun k2 hk2 => .inr (hob k2 hk2))
  · have hr := hE.relen 0
    have e3 : (natE r'.reverse).length = r'.length := by simp [natE]
    rw [e3] at hr
    exact ⟨hr.2.1, hr.2.2.1⟩
theorem Shed.pop {w w' : World} {g b c base j : Nat} {t : TypeId} {cs : Array Value} {v' : Value} {r' out : List (Nat × Nat)} {x z : Nat} (h : Shed w w' g b c base t cs v' ((x, z) :: r') out j) (hbl : b < w.heap.size) (hgl : g < w.heap.size) (hbg : b ≠ g) (i : Nat) :
    Shed w (w'.setCell ⟨g, 2, none⟩ (.slice (some ⟨b, 0, none⟩) r'.length c)) g b c base t cs v' r' out i := by
  have hob : ∀ k2, v'.ownBlock = some k2 → w.heap.size ≤ k2 := fun k2 hk2 => (World.ownsRow.lt h.own k2 hk2).1
  have e1 : natE ((x, z) :: r').reverse = natE r'.reverse ++ [((x : Int), (z : Int))] := by simp [natE]
  have e2 : ((x, z) :: r').length = (natE r'.reverse ++ [((x : Int), (z : Int))]).length := by simp [natE]
  have hE := h.ext
  rw [e1, e2] at hE
  have hI := hE.init
  rw [show (natE r'.reverse).length = r'.length by simp [natE]] at hI
  refine ⟨?_, ?_, ?_, h.only.setCell (.inl (by simp)) _⟩
  · have := h.blk.set_ 2 (.slice (some ⟨b, 0, none⟩) r'.length c)
    simpa using this
  · exact row_of hI fun k2 hk2 => by
      have e := mem_rowOf.1 hk2
      injection e with e
      subst e
      exact Below.heap_setCell _ _ _ _ hbg
  · exact row_of h.own fun k2 hk2 => Below.heap_setCell _ _ _ _ (by have := hob k2 (mem_rowOf.1 hk2); show k2 ≠ g; omega)
set_option maxHeartbeats 8000000 in
theorem shed_any {w : World} {g b c base n : Nat} {t : TypeId} {cs : Array Value} {es : List (Nat × Nat)} (hb : Blk w g t cs) (ht : t ≠ 81) (h2 : cs[2]? = some (.slice (some ⟨b, 0, none⟩) es.length c)) (ho : OwnE w base (.slice (some ⟨b, 0, none⟩) es.length c) (natE es)) (hpos : ∀ e ∈ es, 1 ≤ e.2) (hn : n ≤ lens es) (hfit : ∀ e ∈ es, e.1 ≤ 1000000 ∧ e.2 ≤ 1000000) (hl : es.length ≤ 1000000) (hnb : n ≤ 1000000) :
    Calls Tryz.prog 111 #[.pointer (some ⟨g, 0, none⟩), .int .i64 (n : Int)] w (ShedTo w g b c base t cs es n) := by
  have hbl : b < w.heap.size := (World.ownsRow.lt ho b rfl).2
  have hgl := hb.lt
  have hbg : b ≠ g := by
    obtain ⟨-, h | ⟨b', cap, cur, e, _, hh, _⟩⟩ := ho
    · cases h.1
    · injection e with e; injection e with e; injection e with e
      subst e
      exact fun e => (show Blk w b 81 cur from hh).ne_ hb (fun e' => ht e'.symm) e
  have h0 : Shed w w g b c base t cs (.slice none 0 0) es.reverse [] n := ⟨by rw [List.length_reverse, set_same h2]; exact hb, by rw [List.length_reverse, List.reverse_reverse]; exact ho, OwnE.nil _ _, Only.refl _ _⟩
  have hcs : 2 < cs.size := (Array.getElem?_eq_some_iff.1 h2).1
  have H0 := Lib.hid h0
  have HPS := Lib.hid (And.intro hpos (And.intro hn hfit))
  clear hb h2 ho h0 hpos hn hfit
  go_enter Tryz.func111, Tryz.ntmps111
  go_wp2
  go_loopw [1, 5] (fun nv lv wr => ∃ (nn : Nat) (r out : List (Nat × Nat)), nv = .int .i64 nn ∧ nn ≤ lens r ∧ nn ≤ n ∧ (∀ e ∈ r, 1 ≤ e.2 ∧ e.1 ≤ 1000000 ∧ e.2 ≤ 1000000) ∧ r.length ≤ es.length ∧ out.length + r.length ≤ es.length + 1 ∧ (out.length + r.length ≤ es.length ∨ nn = 0) ∧ (shedR es.reverse n = ((shedR r nn).1, out ++ (shedR r nn).2)) ∧ Shed w wr g b c base t cs lv r out nn) (fun nv _ _ => (intS nv).toNat)
  case atStart => exact ⟨n, es.reverse, [], rfl, by rw [show lens es.reverse = lens es from lens_perm es.reverse_perm]; exact HPS.out.2.1, Nat.le_refl _, fun e he => by have h := List.mem_reverse.1 he; exact ⟨HPS.out.1 e h, HPS.out.2.2 e h⟩, by simp, by simp, .inl (by simp), by simp, H0.out⟩
  case round =>
    obtain ⟨nn, r, out, rfl, hnl, hnn, hrr, hrl, hol, hol2, heq, hS⟩ := hrel
    obtain ⟨wo, hwo⟩ : ∃ wo, wo = wr := ⟨_, rfl⟩
    subst hwo
    obtain ⟨Al, cl, rfl, -⟩ := hS.own.form
    clear H0
    rcases Nat.eq_zero_or_pos nn with hn0 | hn0
    · subst hn0
      rw [shedR_zero] at heq
      have HS := Lib.hid (And.intro hS heq)
      clear hS heq
      go_wp2
      go_ret
      have h := HS.out.1
      rw [List.append_nil] at HS
      refine ⟨_, rfl, ?_, ?_, ?_, h.only⟩
      · rw [HS.out.2]; exact h.blk
      · rw [HS.out.2]; exact h.ext
      · rw [HS.out.2]; exact h.own
    · have hd0 : decide ((0 : Int) < (nn : Int)) = true := decide_eq_true (by omega)
      match r, hnl, hrr, hrl, hol, hol2, heq, hS with
      | [], hnl, _, _, _, _, _, _ => exact absurd hnl (by simp [lens]; omega)
      | (x, y) :: r', hnl, hrr, hrl, hol, hol2, heq, hS =>
        have hxy := hrr (x, y) (by simp)
        have hext := hS.ext
        have hrev : natE ((x, y) :: r').reverse = natE r'.reverse ++ [((x : Int), (y : Int))] := by simp [natE]
        have hlr : (natE r'.reverse).length = r'.length := by simp [natE]
        have hl2 : ((x, y) :: r').length = (natE r'.reverse ++ [((x : Int), (y : Int))]).length := by simp [natE]
        rw [hrev, hl2] at hext
        obtain ⟨k, hk⟩ : ∃ k, k = r'.length := ⟨_, rfl⟩
        have hlens : lens ((x, y) :: r') = y + lens r' := by simp [lens]
        have q2 : wo.cell? ⟨g, 2, none⟩ = some (.slice (some ⟨b, 0, none⟩) (k + 1) c) := by rw [hS.blk.cell, Array.getElem?_setIfInBounds_self_of_lt hcs, hk]; rfl
        have f2 : wo.frozen? ⟨g, 2, none⟩ = false := hS.blk.frozen 2
        have hkl : k ≤ 1000000 := by simp at hrl; omega
        have hw1 : IntKind.i64.wrap (((k + 1 : Nat) : Int) - 1) = (k : Int) := by rw [IntKind.wrap_i64]; omega
        have hrr' : ∀ e ∈ r', 1 ≤ e.2 ∧ e.1 ≤ 1000000 ∧ e.2 ≤ 1000000 := fun e he => hrr e (by simp [he])
        have hkc : k + 1 ≤ c := by
          rcases hS.ext.2 with ⟨e, _⟩ | ⟨_, _, _, e, _, _, h1, _⟩
          · cases e
          · injection e with _ e1 e2; simp [natE] at e1 e2 h1; omega
        have HKK := Lib.hid hk
        by_cases hlt : nn < y
        · have hmin : decide ((nn : Int) ≤ (y : Int)) = true := decide_eq_true (by omega)
          have hw2 : IntKind.i64.wrap ((y : Int) - (nn : Int)) = ((y - nn : Nat) : Int) := by rw [IntKind.wrap_i64]; omega
          have hw3 : IntKind.i64.wrap ((nn : Int) - (nn : Int)) = 0 := by rw [IntKind.wrap_i64]; omega
          have hw4 : IntKind.i64.wrap ((x : Int) + ((y - nn : Nat) : Int)) = ((x + (y - nn) : Nat) : Int) := by rw [IntKind.wrap_i64]; omega
          obtain ⟨hnew, c0, c1, f1⟩ := hext.relen ((y - nn : Nat) : Int)
          rw [hlr, ← hk] at hnew c0 c1 f1
          have HC8 : Hid ((wo.setCell ⟨b, k * 2 + 1, none⟩ (.int .i64 ((y - nn : Nat) : Int))).drew.cell? ⟨b, k * 2, none⟩ = some (.int .i64 (x : Int)) ∧ (wo.setCell ⟨b, k * 2 + 1, none⟩ (.int .i64 ((y - nn : Nat) : Int))).drew.cell? ⟨b, k * 2 + 1, none⟩ = some (.int .i64 ((y - nn : Nat) : Int))) := Lib.hid (by
            have h := hnew.relen ((y - nn : Nat) : Int)
            rw [hlr, ← hk] at h
            exact ⟨h.2.1, h.2.2.1⟩)
          have hsz : w.heap.size ≤ wo.heap.size := hS.only.size
          have hob : ∀ k2, (Value.slice Al (natE out).length cl).ownBlock = some k2 → w.heap.size ≤ k2 := fun k2 hk2 => (World.ownsRow.lt hS.own k2 hk2).1
          have hout1 : OwnE (wo.setCell ⟨b, k * 2 + 1, none⟩ (.int .i64 ((y - nn : Nat) : Int))) w.heap.size (.slice Al (natE out).length cl) (natE out) := row_of hS.own fun k2 hk2 => Below.heap_setCell _ _ _ _ (by have := hob k2 (mem_rowOf.1 hk2); show k2 ≠ b; omega)
          have HOUT : Hid (OwnE (((wo.setCell ⟨b, k * 2 + 1, none⟩ (.int .i64 ((y - nn : Nat) : Int))).drew).alloc (.cells (ext1 (((x + (y - nn) : Nat) : Int), (nn : Int))).toArray 81)) w.heap.size (.slice Al (natE out).length cl) (natE out)) := Lib.hid (row_of hout1 fun k2 hk2 => by
            have h1 := (World.ownsRow.lt hout1 k2 (mem_rowOf.1 hk2)).2
            exact Below.heap_alloc _ _ k2 h1)
          have HLEN : Hid ((natE out).length ≤ 1000001) := Lib.hid (by simp [natE]; simp at hol; omega)
          have HSZ : Hid (w.heap.size ≤ (((wo.setCell ⟨b, k * 2 + 1, none⟩ (.int .i64 ((y - nn : Nat) : Int))).drew).alloc (.cells (ext1 (((x + (y - nn) : Nat) : Int), (nn : Int))).toArray 81)).heap.size) := Lib.hid (by
            simp [World.alloc, World.setCell, World.drew]
            omega)
          have HNEW := Lib.hid (And.intro hnew hS)
          clear hnew hS hext hrev hl2 hk hlr hsz hob hout1

          have hbe := build_ext (((x + (y - nn) : Nat) : Int), (nn : Int))
          have hS8 : (wo.setCell ⟨b, k * 2 + 1, none⟩ (.int .i64 ((y - nn : Nat) : Int))).drew.cell? ⟨b, k * 2, none⟩ = some (.int .i64 (x : Int)) ∧ (wo.setCell ⟨b, k * 2 + 1, none⟩ (.int .i64 ((y - nn : Nat) : Int))).drew.cell? ⟨b, k * 2 + 1, none⟩ = some (.int .i64 ((y - nn : Nat) : Int)) := HC8.out
          have HS8 := Lib.hid hS8
          go_upto_region 8 with (fail)
          refine any_beginL (fun w' => w'.cell? ⟨b, k * 2, none⟩ = some (.int .i64 (x : Int)) ∧ w'.cell? ⟨b, k * 2 + 1, none⟩ = some (.int .i64 ((y - nn : Nat) : Int))) 14 (by kernel_rfl) ?_
          refine L_take (i := 0) (v := .slice Al (natE out).length cl) rfl rfl (by kernel_rfl) (by kernel_rfl) (by kernel_rfl) (by kernel_rfl) (fun _ _ _ h => h) (Or.inl ⟨by rfl, fun w hw => by kernel_rfl⟩) hS8 ?_
          simp only [Act.put, List.getElem_toArray, List.getElem_cons_succ, List.getElem_cons_zero, List.setIfInBounds_toArray, List.set_cons_zero, List.set_cons_succ]
          refine L_take (i := 1) (v := .pointer (some ⟨b, k * 2, none⟩)) rfl rfl (by kernel_rfl) (by kernel_rfl) (by kernel_rfl) (by kernel_rfl) (fun _ _ _ h => h) (Or.inl ⟨by rfl, fun w hw => by kernel_rfl⟩) hS8 ?_
          simp only [Act.put, List.getElem_toArray, List.getElem_cons_succ, List.getElem_cons_zero, List.setIfInBounds_toArray, List.set_cons_zero, List.set_cons_succ]
          refine L_take (i := 2) (v := .pointer (some ⟨b, k * 2, none⟩)) rfl rfl (by kernel_rfl) (by kernel_rfl) (by kernel_rfl) (by kernel_rfl) (fun _ _ _ h => h) (Or.inl ⟨by rfl, fun w hw => by go_simp⟩) hS8 ?_
          simp only [Act.put, List.getElem_toArray, List.getElem_cons_succ, List.getElem_cons_zero, List.setIfInBounds_toArray, List.set_cons_zero, List.set_cons_succ]
          refine L_take (i := 3) (v := .pointer (some ⟨b, k * 2, none⟩)) rfl rfl (by kernel_rfl) (by kernel_rfl) (by kernel_rfl) (by kernel_rfl) (fun _ _ _ h => h) (Or.inl ⟨by rfl, fun w hw => by kernel_rfl⟩) hS8 ?_
          simp only [Act.put, List.getElem_toArray, List.getElem_cons_succ, List.getElem_cons_zero, List.setIfInBounds_toArray, List.set_cons_zero, List.set_cons_succ]
          refine L_take (i := 4) (v := .int .i64 (x : Int)) rfl rfl (by kernel_rfl) (by kernel_rfl) (by kernel_rfl) (by kernel_rfl) (fun _ _ _ h => h) (Or.inl ⟨by rfl, fun w hw => by have q := hw.1; go_simp⟩) hS8 ?_
          simp only [Act.put, List.getElem_toArray, List.getElem_cons_succ, List.getElem_cons_zero, List.setIfInBounds_toArray, List.set_cons_zero, List.set_cons_succ]
          refine L_take (i := 5) (v := .pointer (some ⟨b, k * 2, none⟩)) rfl rfl (by kernel_rfl) (by kernel_rfl) (by kernel_rfl) (by kernel_rfl) (fun _ _ _ h => h) (Or.inl ⟨by rfl, fun w hw => by kernel_rfl⟩) hS8 ?_
          simp only [Act.put, List.getElem_toArray, List.getElem_cons_succ, List.getElem_cons_zero, List.setIfInBounds_toArray, List.set_cons_zero, List.set_cons_succ]
          refine L_take (i := 6) (v := .pointer (some ⟨b, k * 2, none⟩)) rfl rfl (by kernel_rfl) (by kernel_rfl) (by kernel_rfl) (by kernel_rfl) (fun _ _ _ h => h) (Or.inl ⟨by rfl, fun w hw => by go_simp⟩) hS8 ?_
          simp only [Act.put, List.getElem_toArray, List.getElem_cons_succ, List.getElem_cons_zero, List.setIfInBounds_toArray, List.set_cons_zero, List.set_cons_succ]
          refine L_take (i := 7) (v := .pointer (some ⟨b, k * 2 + 1, none⟩)) rfl rfl (by kernel_rfl) (by kernel_rfl) (by kernel_rfl) (by kernel_rfl) (fun _ _ _ h => h) (Or.inl ⟨by rfl, fun w hw => by kernel_rfl⟩) hS8 ?_
          simp only [Act.put, List.getElem_toArray, List.getElem_cons_succ, List.getElem_cons_zero, List.setIfInBounds_toArray, List.set_cons_zero, List.set_cons_succ]
          refine L_take (i := 8) (v := .int .i64 ((y - nn : Nat) : Int)) rfl rfl (by kernel_rfl) (by kernel_rfl) (by kernel_rfl) (by kernel_rfl) (fun _ _ _ h => h) (Or.inl ⟨by rfl, fun w hw => by have q := hw.2; go_simp⟩) hS8 ?_
          simp only [Act.put, List.getElem_toArray, List.getElem_cons_succ, List.getElem_cons_zero, List.setIfInBounds_toArray, List.set_cons_zero, List.set_cons_succ]
          refine L_take (i := 9) (v := .int .i64 ((x + (y - nn) : Nat) : Int)) rfl rfl (by kernel_rfl) (by kernel_rfl) (by kernel_rfl) (by kernel_rfl) (fun _ _ _ h => h) (Or.inl ⟨by rfl, fun w hw => by go_simp⟩) hS8 ?_
          simp only [Act.put, List.getElem_toArray, List.getElem_cons_succ, List.getElem_cons_zero, List.setIfInBounds_toArray, List.set_cons_zero, List.set_cons_succ]
          refine L_take (i := 10) (v := .int .i64 (nn : Int)) rfl rfl (by kernel_rfl) (by kernel_rfl) (by kernel_rfl) (by kernel_rfl) (fun _ _ _ h => h) (Or.inl ⟨by rfl, fun w hw => by kernel_rfl⟩) hS8 ?_
          simp only [Act.put, List.getElem_toArray, List.getElem_cons_succ, List.getElem_cons_zero, List.setIfInBounds_toArray, List.set_cons_zero, List.set_cons_succ]
          refine L_take (i := 11) (v := .agg #[.int .i64 ((x + (y - nn) : Nat) : Int), .int .i64 (nn : Int)]) rfl rfl (by kernel_rfl) (by kernel_rfl) (by kernel_rfl) (by kernel_rfl) (fun _ _ _ h => h) (Or.inl ⟨by rfl, fun w hw => by go_simp⟩) hS8 ?_
          simp only [Act.put, List.getElem_toArray, List.getElem_cons_succ, List.getElem_cons_zero, List.setIfInBounds_toArray, List.set_cons_zero, List.set_cons_succ]
          refine L_one (j := 12) (by kernel_rfl) rfl (by rfl) ?_
          simp only [Act.put, List.getElem_toArray, List.getElem_cons_succ, List.getElem_cons_zero, List.setIfInBounds_toArray, List.set_cons_zero, List.set_cons_succ]
          refine wp_ran (v := .slice (some ⟨(wo.setCell ⟨b, k * 2 + 1, none⟩ (.int .i64 ((y - nn : Nat) : Int))).drew.heap.size, 0, none⟩) 1 1) (w' := ((wo.setCell ⟨b, k * 2 + 1, none⟩ (.int .i64 ((y - nn : Nat) : Int))).drew).alloc (.cells (ext1 (((x + (y - nn) : Nat) : Int), (nn : Int))).toArray 81)) (by have hq := hbe ((wo.setCell ⟨b, k * 2 + 1, none⟩ (.int .i64 ((y - nn : Nat) : Int))).drew); go_simp; rfl) ⟨⟨(cell_alloc_lt2 hS8.1), (cell_alloc_lt2 hS8.2)⟩, ?_⟩
          simp only [Act.put, List.getElem_toArray, List.getElem_cons_succ, List.getElem_cons_zero, List.setIfInBounds_toArray, List.set_cons_zero, List.set_cons_succ]
          refine L_one (j := 13) (by kernel_rfl) rfl (by rfl) ?_
          simp only [Act.put, List.getElem_toArray, List.getElem_cons_succ, List.getElem_cons_zero, List.setIfInBounds_toArray, List.set_cons_zero, List.set_cons_succ]
          obtain ⟨i0, hi0, hz0, hz1, hz2⟩ := info_parts ext_info
          refine wp_append_any _ (.tmp 40) (.tmp 52) 74 rfl w.heap.size 81 i0 _ 2 16 Tryz.underlying74 hi0 hz0 hz1 hz2 rfl (by omega) (.slice Al (natE out).length cl) (natE out).length (extS (natE out)) rfl HOUT.out _ (some ⟨_, 0, none⟩) 1 1 (extS [(((x + (y - nn) : Nat) : Int), (nn : Int))]) rfl (ext_new _ _) (extS_one _) (by simp only [maxLen]; have := HLEN.out; omega) (by have := HLEN.out; omega) (HSZ.out) ?_
          intro v' w' hown hgr hor
          have hown2 : OwnE w' w.heap.size v' (natE out ++ [(((x + (y - nn) : Nat) : Int), (nn : Int))]) := by unfold OwnE; rw [extS, List.flatMap_append, List.length_append]; exact hown
          obtain ⟨hstep, hc0, hc1⟩ := HNEW.out.2.step hbl hgl hbg HNEW.out.1 hgr hown2
          rw [← HKK.out] at hc0 hc1
          obtain ⟨A2, c2, rfl, -⟩ := (hstep 0).own.form
          have HSTEP := Lib.hid hstep
          clear hown hown2 hstep hgr hor
          refine ⟨⟨hc0, hc1⟩, ?_⟩
          simp only [Act.put, List.getElem_toArray, List.getElem_cons_succ, List.getElem_cons_zero, List.setIfInBounds_toArray, List.set_cons_zero, List.set_cons_succ]
          refine L_last (by kernel_rfl) rfl (by rfl) (by kernel_rfl) ?_
          simp only [Act.put, List.getElem_toArray, List.getElem_cons_succ, List.getElem_cons_zero, List.setIfInBounds_toArray, List.set_cons_zero, List.set_cons_succ]
          refine wp_ran (v := .slice A2 (natE (out ++ [((x + (y - nn) : Nat), nn)])).length c2) (w' := w') (by kernel_rfl) ?_
          simp only [Act.put, List.getElem_toArray, List.getElem_cons_succ, List.getElem_cons_zero, List.setIfInBounds_toArray, List.set_cons_zero, List.set_cons_succ]
          simp only [NoPanic, Exit.then]

          have hz9 : decide (((y - nn : Nat) : Int) = 0) = false := decide_eq_false (by omega)
          go_wp2
          refine ⟨⟨0, (x, y - nn) :: r', out ++ [(x + (y - nn), nn)], rfl, Nat.zero_le _, Nat.zero_le _, ?_, by simpa using hrl, by simp at hol hol2 ⊢; omega, .inr rfl, ?_, HSTEP.out 0⟩, by simp [intS]; omega⟩
          · intro e he
            rcases List.mem_cons.1 he with rfl | he
            · exact ⟨by show 1 ≤ y - nn; omega, hxy.2.1, by have := hxy.2.2; show y - nn ≤ 1000000; simp at this; omega⟩
            · exact hrr' e he
          · rw [shedR_zero, heq, shedR_part hn0 hlt]
            simp
        · rcases Nat.lt_or_ge y nn with hyn | hyn
          · have hmin : decide ((nn : Int) ≤ (y : Int)) = false := decide_eq_false (by omega)
            have hw2 : IntKind.i64.wrap ((y : Int) - (y : Int)) = 0 := by rw [IntKind.wrap_i64]; omega
            have hw3 : IntKind.i64.wrap ((nn : Int) - (y : Int)) = ((nn - y : Nat) : Int) := by rw [IntKind.wrap_i64]; omega
            have hw4 : IntKind.i64.wrap ((x : Int) + 0) = (x : Int) := by rw [IntKind.wrap_i64]; omega
            have hw5 : IntKind.i64.wrap (x : Int) = (x : Int) := by rw [IntKind.wrap_i64]; omega
            obtain ⟨hnew, c0, c1, f1⟩ := hext.relen (0 : Int)
            rw [hlr, ← hk] at hnew c0 c1 f1
            have HC8 : Hid ((wo.setCell ⟨b, k * 2 + 1, none⟩ (.int .i64 (0 : Int))).drew.cell? ⟨b, k * 2, none⟩ = some (.int .i64 (x : Int)) ∧ (wo.setCell ⟨b, k * 2 + 1, none⟩ (.int .i64 (0 : Int))).drew.cell? ⟨b, k * 2 + 1, none⟩ = some (.int .i64 (0 : Int))) := Lib.hid (by
              have h := hnew.relen (0 : Int)
              rw [hlr, ← hk] at h
              exact ⟨h.2.1, h.2.2.1⟩)
            have hsz : w.heap.size ≤ wo.heap.size := hS.only.size
            have hob : ∀ k2, (Value.slice Al (natE out).length cl).ownBlock = some k2 → w.heap.size ≤ k2 := fun k2 hk2 => (World.ownsRow.lt hS.own k2 hk2).1
            have hout1 : OwnE (wo.setCell ⟨b, k * 2 + 1, none⟩ (.int .i64 (0 : Int))) w.heap.size (.slice Al (natE out).length cl) (natE out) := row_of hS.own fun k2 hk2 => Below.heap_setCell _ _ _ _ (by have := hob k2 (mem_rowOf.1 hk2); show k2 ≠ b; omega)
            have HOUT : Hid (OwnE (((wo.setCell ⟨b, k * 2 + 1, none⟩ (.int .i64 (0 : Int))).drew).alloc (.cells (ext1 ((x : Int), (y : Int))).toArray 81)) w.heap.size (.slice Al (natE out).length cl) (natE out)) := Lib.hid (row_of hout1 fun k2 hk2 => by
              have h1 := (World.ownsRow.lt hout1 k2 (mem_rowOf.1 hk2)).2
              exact Below.heap_alloc _ _ k2 h1)
            have HLEN : Hid ((natE out).length ≤ 1000001) := Lib.hid (by simp [natE]; simp at hol; omega)
            have HSZ : Hid (w.heap.size ≤ (((wo.setCell ⟨b, k * 2 + 1, none⟩ (.int .i64 (0 : Int))).drew).alloc (.cells (ext1 ((x : Int), (y : Int))).toArray 81)).heap.size) := Lib.hid (by
              simp [World.alloc, World.setCell, World.drew]
              omega)
            have HNEW := Lib.hid (And.intro hnew hS)
            clear hnew hS hext hrev hl2 hk hlr hsz hob hout1

            have hbe := build_ext ((x : Int), (y : Int))
            have hS8 : (wo.setCell ⟨b, k * 2 + 1, none⟩ (.int .i64 (0 : Int))).drew.cell? ⟨b, k * 2, none⟩ = some (.int .i64 (x : Int)) ∧ (wo.setCell ⟨b, k * 2 + 1, none⟩ (.int .i64 (0 : Int))).drew.cell? ⟨b, k * 2 + 1, none⟩ = some (.int .i64 (0 : Int)) := HC8.out
            have HS8 := Lib.hid hS8
            go_upto_region 8 with (fail)
            refine any_beginL (fun w' => w'.cell? ⟨b, k * 2, none⟩ = some (.int .i64 (x : Int)) ∧ w'.cell? ⟨b, k * 2 + 1, none⟩ = some (.int .i64 (0 : Int))) 14 (by kernel_rfl) ?_
            refine L_take (i := 0) (v := .slice Al (natE out).length cl) rfl rfl (by kernel_rfl) (by kernel_rfl) (by kernel_rfl) (by kernel_rfl) (fun _ _ _ h => h) (Or.inl ⟨by rfl, fun w hw => by kernel_rfl⟩) hS8 ?_
            simp only [Act.put, List.getElem_toArray, List.getElem_cons_succ, List.getElem_cons_zero, List.setIfInBounds_toArray, List.set_cons_zero, List.set_cons_succ]
            refine L_take (i := 1) (v := .pointer (some ⟨b, k * 2, none⟩)) rfl rfl (by kernel_rfl) (by kernel_rfl) (by kernel_rfl) (by kernel_rfl) (fun _ _ _ h => h) (Or.inl ⟨by rfl, fun w hw => by kernel_rfl⟩) hS8 ?_
            simp only [Act.put, List.getElem_toArray, List.getElem_cons_succ, List.getElem_cons_zero, List.setIfInBounds_toArray, List.set_cons_zero, List.set_cons_succ]
            refine L_take (i := 2) (v := .pointer (some ⟨b, k * 2, none⟩)) rfl rfl (by kernel_rfl) (by kernel_rfl) (by kernel_rfl) (by kernel_rfl) (fun _ _ _ h => h) (Or.inl ⟨by rfl, fun w hw => by go_simp⟩) hS8 ?_
            simp only [Act.put, List.getElem_toArray, List.getElem_cons_succ, List.getElem_cons_zero, List.setIfInBounds_toArray, List.set_cons_zero, List.set_cons_succ]
            refine L_take (i := 3) (v := .pointer (some ⟨b, k * 2, none⟩)) rfl rfl (by kernel_rfl) (by kernel_rfl) (by kernel_rfl) (by kernel_rfl) (fun _ _ _ h => h) (Or.inl ⟨by rfl, fun w hw => by kernel_rfl⟩) hS8 ?_
            simp only [Act.put, List.getElem_toArray, List.getElem_cons_succ, List.getElem_cons_zero, List.setIfInBounds_toArray, List.set_cons_zero, List.set_cons_succ]
            refine L_take (i := 4) (v := .int .i64 (x : Int)) rfl rfl (by kernel_rfl) (by kernel_rfl) (by kernel_rfl) (by kernel_rfl) (fun _ _ _ h => h) (Or.inl ⟨by rfl, fun w hw => by have q := hw.1; go_simp⟩) hS8 ?_
            simp only [Act.put, List.getElem_toArray, List.getElem_cons_succ, List.getElem_cons_zero, List.setIfInBounds_toArray, List.set_cons_zero, List.set_cons_succ]
            refine L_take (i := 5) (v := .pointer (some ⟨b, k * 2, none⟩)) rfl rfl (by kernel_rfl) (by kernel_rfl) (by kernel_rfl) (by kernel_rfl) (fun _ _ _ h => h) (Or.inl ⟨by rfl, fun w hw => by kernel_rfl⟩) hS8 ?_
            simp only [Act.put, List.getElem_toArray, List.getElem_cons_succ, List.getElem_cons_zero, List.setIfInBounds_toArray, List.set_cons_zero, List.set_cons_succ]
            refine L_take (i := 6) (v := .pointer (some ⟨b, k * 2, none⟩)) rfl rfl (by kernel_rfl) (by kernel_rfl) (by kernel_rfl) (by kernel_rfl) (fun _ _ _ h => h) (Or.inl ⟨by rfl, fun w hw => by go_simp⟩) hS8 ?_
            simp only [Act.put, List.getElem_toArray, List.getElem_cons_succ, List.getElem_cons_zero, List.setIfInBounds_toArray, List.set_cons_zero, List.set_cons_succ]
            refine L_take (i := 7) (v := .pointer (some ⟨b, k * 2 + 1, none⟩)) rfl rfl (by kernel_rfl) (by kernel_rfl) (by kernel_rfl) (by kernel_rfl) (fun _ _ _ h => h) (Or.inl ⟨by rfl, fun w hw => by kernel_rfl⟩) hS8 ?_
            simp only [Act.put, List.getElem_toArray, List.getElem_cons_succ, List.getElem_cons_zero, List.setIfInBounds_toArray, List.set_cons_zero, List.set_cons_succ]
            refine L_take (i := 8) (v := .int .i64 (0 : Int)) rfl rfl (by kernel_rfl) (by kernel_rfl) (by kernel_rfl) (by kernel_rfl) (fun _ _ _ h => h) (Or.inl ⟨by rfl, fun w hw => by have q := hw.2; go_simp⟩) hS8 ?_
            simp only [Act.put, List.getElem_toArray, List.getElem_cons_succ, List.getElem_cons_zero, List.setIfInBounds_toArray, List.set_cons_zero, List.set_cons_succ]
            refine L_take (i := 9) (v := .int .i64 (x : Int)) rfl rfl (by kernel_rfl) (by kernel_rfl) (by kernel_rfl) (by kernel_rfl) (fun _ _ _ h => h) (Or.inl ⟨by rfl, fun w hw => by go_simp⟩) hS8 ?_
            simp only [Act.put, List.getElem_toArray, List.getElem_cons_succ, List.getElem_cons_zero, List.setIfInBounds_toArray, List.set_cons_zero, List.set_cons_succ]
            refine L_take (i := 10) (v := .int .i64 (y : Int)) rfl rfl (by kernel_rfl) (by kernel_rfl) (by kernel_rfl) (by kernel_rfl) (fun _ _ _ h => h) (Or.inl ⟨by rfl, fun w hw => by kernel_rfl⟩) hS8 ?_
            simp only [Act.put, List.getElem_toArray, List.getElem_cons_succ, List.getElem_cons_zero, List.setIfInBounds_toArray, List.set_cons_zero, List.set_cons_succ]
            refine L_take (i := 11) (v := .agg #[.int .i64 (x : Int), .int .i64 (y : Int)]) rfl rfl (by kernel_rfl) (by kernel_rfl) (by kernel_rfl) (by kernel_rfl) (fun _ _ _ h => h) (Or.inl ⟨by rfl, fun w hw => by go_simp⟩) hS8 ?_
            simp only [Act.put, List.getElem_toArray, List.getElem_cons_succ, List.getElem_cons_zero, List.setIfInBounds_toArray, List.set_cons_zero, List.set_cons_succ]
            refine L_one (j := 12) (by kernel_rfl) rfl (by rfl) ?_
            simp only [Act.put, List.getElem_toArray, List.getElem_cons_succ, List.getElem_cons_zero, List.setIfInBounds_toArray, List.set_cons_zero, List.set_cons_succ]
            refine wp_ran (v := .slice (some ⟨(wo.setCell ⟨b, k * 2 + 1, none⟩ (.int .i64 (0 : Int))).drew.heap.size, 0, none⟩) 1 1) (w' := ((wo.setCell ⟨b, k * 2 + 1, none⟩ (.int .i64 (0 : Int))).drew).alloc (.cells (ext1 ((x : Int), (y : Int))).toArray 81)) (by have hq := hbe ((wo.setCell ⟨b, k * 2 + 1, none⟩ (.int .i64 (0 : Int))).drew); go_simp; rfl) ⟨⟨(cell_alloc_lt2 hS8.1), (cell_alloc_lt2 hS8.2)⟩, ?_⟩
            simp only [Act.put, List.getElem_toArray, List.getElem_cons_succ, List.getElem_cons_zero, List.setIfInBounds_toArray, List.set_cons_zero, List.set_cons_succ]
            refine L_one (j := 13) (by kernel_rfl) rfl (by rfl) ?_
            simp only [Act.put, List.getElem_toArray, List.getElem_cons_succ, List.getElem_cons_zero, List.setIfInBounds_toArray, List.set_cons_zero, List.set_cons_succ]
            obtain ⟨i0, hi0, hz0, hz1, hz2⟩ := info_parts ext_info
            refine wp_append_any _ (.tmp 40) (.tmp 52) 74 rfl w.heap.size 81 i0 _ 2 16 Tryz.underlying74 hi0 hz0 hz1 hz2 rfl (by omega) (.slice Al (natE out).length cl) (natE out).length (extS (natE out)) rfl HOUT.out _ (some ⟨_, 0, none⟩) 1 1 (extS [((x : Int), (y : Int))]) rfl (ext_new _ _) (extS_one _) (by simp only [maxLen]; have := HLEN.out; omega) (by have := HLEN.out; omega) (HSZ.out) ?_
            intro v' w' hown hgr hor
            have hown2 : OwnE w' w.heap.size v' (natE out ++ [((x : Int), (y : Int))]) := by unfold OwnE; rw [extS, List.flatMap_append, List.length_append]; exact hown
            obtain ⟨hstep, hc0, hc1⟩ := HNEW.out.2.step (z := 0) hbl hgl hbg HNEW.out.1 hgr hown2
            rw [← HKK.out] at hc0 hc1
            have hc1 : w'.cell? ⟨b, k * 2 + 1, none⟩ = some (.int .i64 0) := hc1
            have q10 : w'.cell? ⟨g, 2, none⟩ = some (.slice (some ⟨b, 0, none⟩) (k + 1) c) := by rw [(hstep 0).blk.cell, Array.getElem?_setIfInBounds_self_of_lt hcs, HKK.out]; rfl
            have f10 : w'.frozen? ⟨g, 2, none⟩ = false := (hstep 0).blk.frozen 2
            have hsl := run_head_exts b (k + 1) c k (by omega)
            obtain ⟨A2, c2, rfl, -⟩ := (hstep 0).own.form
            have HSTEP := Lib.hid hstep
            clear hown hown2 hstep hgr hor
            refine ⟨⟨hc0, hc1⟩, ?_⟩
            simp only [Act.put, List.getElem_toArray, List.getElem_cons_succ, List.getElem_cons_zero, List.setIfInBounds_toArray, List.set_cons_zero, List.set_cons_succ]
            refine L_last (by kernel_rfl) rfl (by rfl) (by kernel_rfl) ?_
            simp only [Act.put, List.getElem_toArray, List.getElem_cons_succ, List.getElem_cons_zero, List.setIfInBounds_toArray, List.set_cons_zero, List.set_cons_succ]
            refine wp_ran (v := .slice A2 (natE (out ++ [(x, y)])).length c2) (w' := w') (by kernel_rfl) ?_
            simp only [Act.put, List.getElem_toArray, List.getElem_cons_succ, List.getElem_cons_zero, List.setIfInBounds_toArray, List.set_cons_zero, List.set_cons_succ]
            simp only [NoPanic, Exit.then]

            go_wp2
            refine ⟨⟨nn - y, r', out ++ [(x, y)], rfl, by rw [hlens] at hnl; omega, by omega, hrr', by simp at hrl; omega, by simp at hol hol2 ⊢; omega, by simp at hol hol2 ⊢; omega, ?_, by have h := (HSTEP.out 0).pop hbl hgl hbg (nn - y); rw [← HKK.out] at h; exact h⟩, by simp [intS]; omega⟩
            rw [heq, shedR_whole hn0 (by omega)]
            simp
          · obtain rfl : y = nn := by omega
            have hmin : decide ((y : Int) ≤ (y : Int)) = true := decide_eq_true (by omega)
            have hw2 : IntKind.i64.wrap ((y : Int) - (y : Int)) = 0 := by rw [IntKind.wrap_i64]; omega
            have hw3 : IntKind.i64.wrap ((y : Int) - (y : Int)) = ((0 : Nat) : Int) := by rw [IntKind.wrap_i64]; omega
            have hw4 : IntKind.i64.wrap ((x : Int) + 0) = (x : Int) := by rw [IntKind.wrap_i64]; omega
            have hw5 : IntKind.i64.wrap (x : Int) = (x : Int) := by rw [IntKind.wrap_i64]; omega
            obtain ⟨hnew, c0, c1, f1⟩ := hext.relen (0 : Int)
            rw [hlr, ← hk] at hnew c0 c1 f1
            have HC8 : Hid ((wo.setCell ⟨b, k * 2 + 1, none⟩ (.int .i64 (0 : Int))).drew.cell? ⟨b, k * 2, none⟩ = some (.int .i64 (x : Int)) ∧ (wo.setCell ⟨b, k * 2 + 1, none⟩ (.int .i64 (0 : Int))).drew.cell? ⟨b, k * 2 + 1, none⟩ = some (.int .i64 (0 : Int))) := Lib.hid (by
              have h := hnew.relen (0 : Int)
              rw [hlr, ← hk] at h
              exact ⟨h.2.1, h.2.2.1⟩)
            have hsz : w.heap.size ≤ wo.heap.size := hS.only.size
            have hob : ∀ k2, (Value.slice Al (natE out).length cl).ownBlock = some k2 → w.heap.size ≤ k2 := fun k2 hk2 => (World.ownsRow.lt hS.own k2 hk2).1
            have hout1 : OwnE (wo.setCell ⟨b, k * 2 + 1, none⟩ (.int .i64 (0 : Int))) w.heap.size (.slice Al (natE out).length cl) (natE out) := row_of hS.own fun k2 hk2 => Below.heap_setCell _ _ _ _ (by have := hob k2 (mem_rowOf.1 hk2); show k2 ≠ b; omega)
            have HOUT : Hid (OwnE (((wo.setCell ⟨b, k * 2 + 1, none⟩ (.int .i64 (0 : Int))).drew).alloc (.cells (ext1 ((x : Int), (y : Int))).toArray 81)) w.heap.size (.slice Al (natE out).length cl) (natE out)) := Lib.hid (row_of hout1 fun k2 hk2 => by
              have h1 := (World.ownsRow.lt hout1 k2 (mem_rowOf.1 hk2)).2
              exact Below.heap_alloc _ _ k2 h1)
            have HLEN : Hid ((natE out).length ≤ 1000001) := Lib.hid (by simp [natE]; simp at hol; omega)
            have HSZ : Hid (w.heap.size ≤ (((wo.setCell ⟨b, k * 2 + 1, none⟩ (.int .i64 (0 : Int))).drew).alloc (.cells (ext1 ((x : Int), (y : Int))).toArray 81)).heap.size) := Lib.hid (by
              simp [World.alloc, World.setCell, World.drew]
              omega)
            have HNEW := Lib.hid (And.intro hnew hS)
            clear hnew hS hext hrev hl2 hk hlr hsz hob hout1

            have hbe := build_ext ((x : Int), (y : Int))
            have hS8 : (wo.setCell ⟨b, k * 2 + 1, none⟩ (.int .i64 (0 : Int))).drew.cell? ⟨b, k * 2, none⟩ = some (.int .i64 (x : Int)) ∧ (wo.setCell ⟨b, k * 2 + 1, none⟩ (.int .i64 (0 : Int))).drew.cell? ⟨b, k * 2 + 1, none⟩ = some (.int .i64 (0 : Int)) := HC8.out
            have HS8 := Lib.hid hS8
            go_upto_region 8 with (fail)
            refine any_beginL (fun w' => w'.cell? ⟨b, k * 2, none⟩ = some (.int .i64 (x : Int)) ∧ w'.cell? ⟨b, k * 2 + 1, none⟩ = some (.int .i64 (0 : Int))) 14 (by kernel_rfl) ?_
            refine L_take (i := 0) (v := .slice Al (natE out).length cl) rfl rfl (by kernel_rfl) (by kernel_rfl) (by kernel_rfl) (by kernel_rfl) (fun _ _ _ h => h) (Or.inl ⟨by rfl, fun w hw => by kernel_rfl⟩) hS8 ?_
            simp only [Act.put, List.getElem_toArray, List.getElem_cons_succ, List.getElem_cons_zero, List.setIfInBounds_toArray, List.set_cons_zero, List.set_cons_succ]
            refine L_take (i := 1) (v := .pointer (some ⟨b, k * 2, none⟩)) rfl rfl (by kernel_rfl) (by kernel_rfl) (by kernel_rfl) (by kernel_rfl) (fun _ _ _ h => h) (Or.inl ⟨by rfl, fun w hw => by kernel_rfl⟩) hS8 ?_
            simp only [Act.put, List.getElem_toArray, List.getElem_cons_succ, List.getElem_cons_zero, List.setIfInBounds_toArray, List.set_cons_zero, List.set_cons_succ]
            refine L_take (i := 2) (v := .pointer (some ⟨b, k * 2, none⟩)) rfl rfl (by kernel_rfl) (by kernel_rfl) (by kernel_rfl) (by kernel_rfl) (fun _ _ _ h => h) (Or.inl ⟨by rfl, fun w hw => by go_simp⟩) hS8 ?_
            simp only [Act.put, List.getElem_toArray, List.getElem_cons_succ, List.getElem_cons_zero, List.setIfInBounds_toArray, List.set_cons_zero, List.set_cons_succ]
            refine L_take (i := 3) (v := .pointer (some ⟨b, k * 2, none⟩)) rfl rfl (by kernel_rfl) (by kernel_rfl) (by kernel_rfl) (by kernel_rfl) (fun _ _ _ h => h) (Or.inl ⟨by rfl, fun w hw => by kernel_rfl⟩) hS8 ?_
            simp only [Act.put, List.getElem_toArray, List.getElem_cons_succ, List.getElem_cons_zero, List.setIfInBounds_toArray, List.set_cons_zero, List.set_cons_succ]
            refine L_take (i := 4) (v := .int .i64 (x : Int)) rfl rfl (by kernel_rfl) (by kernel_rfl) (by kernel_rfl) (by kernel_rfl) (fun _ _ _ h => h) (Or.inl ⟨by rfl, fun w hw => by have q := hw.1; go_simp⟩) hS8 ?_
            simp only [Act.put, List.getElem_toArray, List.getElem_cons_succ, List.getElem_cons_zero, List.setIfInBounds_toArray, List.set_cons_zero, List.set_cons_succ]
            refine L_take (i := 5) (v := .pointer (some ⟨b, k * 2, none⟩)) rfl rfl (by kernel_rfl) (by kernel_rfl) (by kernel_rfl) (by kernel_rfl) (fun _ _ _ h => h) (Or.inl ⟨by rfl, fun w hw => by kernel_rfl⟩) hS8 ?_
            simp only [Act.put, List.getElem_toArray, List.getElem_cons_succ, List.getElem_cons_zero, List.setIfInBounds_toArray, List.set_cons_zero, List.set_cons_succ]
            refine L_take (i := 6) (v := .pointer (some ⟨b, k * 2, none⟩)) rfl rfl (by kernel_rfl) (by kernel_rfl) (by kernel_rfl) (by kernel_rfl) (fun _ _ _ h => h) (Or.inl ⟨by rfl, fun w hw => by go_simp⟩) hS8 ?_
            simp only [Act.put, List.getElem_toArray, List.getElem_cons_succ, List.getElem_cons_zero, List.setIfInBounds_toArray, List.set_cons_zero, List.set_cons_succ]
            refine L_take (i := 7) (v := .pointer (some ⟨b, k * 2 + 1, none⟩)) rfl rfl (by kernel_rfl) (by kernel_rfl) (by kernel_rfl) (by kernel_rfl) (fun _ _ _ h => h) (Or.inl ⟨by rfl, fun w hw => by kernel_rfl⟩) hS8 ?_
            simp only [Act.put, List.getElem_toArray, List.getElem_cons_succ, List.getElem_cons_zero, List.setIfInBounds_toArray, List.set_cons_zero, List.set_cons_succ]
            refine L_take (i := 8) (v := .int .i64 (0 : Int)) rfl rfl (by kernel_rfl) (by kernel_rfl) (by kernel_rfl) (by kernel_rfl) (fun _ _ _ h => h) (Or.inl ⟨by rfl, fun w hw => by have q := hw.2; go_simp⟩) hS8 ?_
            simp only [Act.put, List.getElem_toArray, List.getElem_cons_succ, List.getElem_cons_zero, List.setIfInBounds_toArray, List.set_cons_zero, List.set_cons_succ]
            refine L_take (i := 9) (v := .int .i64 (x : Int)) rfl rfl (by kernel_rfl) (by kernel_rfl) (by kernel_rfl) (by kernel_rfl) (fun _ _ _ h => h) (Or.inl ⟨by rfl, fun w hw => by go_simp⟩) hS8 ?_
            simp only [Act.put, List.getElem_toArray, List.getElem_cons_succ, List.getElem_cons_zero, List.setIfInBounds_toArray, List.set_cons_zero, List.set_cons_succ]
            refine L_take (i := 10) (v := .int .i64 (y : Int)) rfl rfl (by kernel_rfl) (by kernel_rfl) (by kernel_rfl) (by kernel_rfl) (fun _ _ _ h => h) (Or.inl ⟨by rfl, fun w hw => by kernel_rfl⟩) hS8 ?_
            simp only [Act.put, List.getElem_toArray, List.getElem_cons_succ, List.getElem_cons_zero, List.setIfInBounds_toArray, List.set_cons_zero, List.set_cons_succ]
            refine L_take (i := 11) (v := .agg #[.int .i64 (x : Int), .int .i64 (y : Int)]) rfl rfl (by kernel_rfl) (by kernel_rfl) (by kernel_rfl) (by kernel_rfl) (fun _ _ _ h => h) (Or.inl ⟨by rfl, fun w hw => by go_simp⟩) hS8 ?_
            simp only [Act.put, List.getElem_toArray, List.getElem_cons_succ, List.getElem_cons_zero, List.setIfInBounds_toArray, List.set_cons_zero, List.set_cons_succ]
            refine L_one (j := 12) (by kernel_rfl) rfl (by rfl) ?_
            simp only [Act.put, List.getElem_toArray, List.getElem_cons_succ, List.getElem_cons_zero, List.setIfInBounds_toArray, List.set_cons_zero, List.set_cons_succ]
            refine wp_ran (v := .slice (some ⟨(wo.setCell ⟨b, k * 2 + 1, none⟩ (.int .i64 (0 : Int))).drew.heap.size, 0, none⟩) 1 1) (w' := ((wo.setCell ⟨b, k * 2 + 1, none⟩ (.int .i64 (0 : Int))).drew).alloc (.cells (ext1 ((x : Int), (y : Int))).toArray 81)) (by have hq := hbe ((wo.setCell ⟨b, k * 2 + 1, none⟩ (.int .i64 (0 : Int))).drew); go_simp; rfl) ⟨⟨(cell_alloc_lt2 hS8.1), (cell_alloc_lt2 hS8.2)⟩, ?_⟩
            simp only [Act.put, List.getElem_toArray, List.getElem_cons_succ, List.getElem_cons_zero, List.setIfInBounds_toArray, List.set_cons_zero, List.set_cons_succ]
            refine L_one (j := 13) (by kernel_rfl) rfl (by rfl) ?_
            simp only [Act.put, List.getElem_toArray, List.getElem_cons_succ, List.getElem_cons_zero, List.setIfInBounds_toArray, List.set_cons_zero, List.set_cons_succ]
            obtain ⟨i0, hi0, hz0, hz1, hz2⟩ := info_parts ext_info
            refine wp_append_any _ (.tmp 40) (.tmp 52) 74 rfl w.heap.size 81 i0 _ 2 16 Tryz.underlying74 hi0 hz0 hz1 hz2 rfl (by omega) (.slice Al (natE out).length cl) (natE out).length (extS (natE out)) rfl HOUT.out _ (some ⟨_, 0, none⟩) 1 1 (extS [((x : Int), (y : Int))]) rfl (ext_new _ _) (extS_one _) (by simp only [maxLen]; have := HLEN.out; omega) (by have := HLEN.out; omega) (HSZ.out) ?_
            intro v' w' hown hgr hor
            have hown2 : OwnE w' w.heap.size v' (natE out ++ [((x : Int), (y : Int))]) := by unfold OwnE; rw [extS, List.flatMap_append, List.length_append]; exact hown
            obtain ⟨hstep, hc0, hc1⟩ := HNEW.out.2.step (z := 0) hbl hgl hbg HNEW.out.1 hgr hown2
            rw [← HKK.out] at hc0 hc1
            have hc1 : w'.cell? ⟨b, k * 2 + 1, none⟩ = some (.int .i64 0) := hc1
            have q10 : w'.cell? ⟨g, 2, none⟩ = some (.slice (some ⟨b, 0, none⟩) (k + 1) c) := by rw [(hstep 0).blk.cell, Array.getElem?_setIfInBounds_self_of_lt hcs, HKK.out]; rfl
            have f10 : w'.frozen? ⟨g, 2, none⟩ = false := (hstep 0).blk.frozen 2
            have hsl := run_head_exts b (k + 1) c k (by omega)
            obtain ⟨A2, c2, rfl, -⟩ := (hstep 0).own.form
            have HSTEP := Lib.hid hstep
            clear hown hown2 hstep hgr hor
            refine ⟨⟨hc0, hc1⟩, ?_⟩
            simp only [Act.put, List.getElem_toArray, List.getElem_cons_succ, List.getElem_cons_zero, List.setIfInBounds_toArray, List.set_cons_zero, List.set_cons_succ]
            refine L_last (by kernel_rfl) rfl (by rfl) (by kernel_rfl) ?_
            simp only [Act.put, List.getElem_toArray, List.getElem_cons_succ, List.getElem_cons_zero, List.setIfInBounds_toArray, List.set_cons_zero, List.set_cons_succ]
            refine wp_ran (v := .slice A2 (natE (out ++ [(x, y)])).length c2) (w' := w') (by kernel_rfl) ?_
            simp only [Act.put, List.getElem_toArray, List.getElem_cons_succ, List.getElem_cons_zero, List.setIfInBounds_toArray, List.set_cons_zero, List.set_cons_succ]
            simp only [NoPanic, Exit.then]

            go_wp2
            refine ⟨⟨0, r', out ++ [(x, y)], rfl, by rw [hlens] at hnl; omega, by omega, hrr', by simp at hrl; omega, by simp at hol hol2 ⊢; omega, by exact .inr rfl, ?_, by have h := (HSTEP.out 0).pop hbl hgl hbg (0); rw [← HKK.out] at h; exact h⟩, by simp [intS]; omega⟩
            rw [heq, shedR_whole hn0 (by omega)]
            simp
end Go.Proofs.YtfbpfgbmlbkffaaGreat

/-
  An error unless a condition holds, and whether a step's places are in reach. Conditions: none.
-/
namespace Go.Proofs.YtfbpfgbmlbkffaaGreat
open Go.RowKit Go.BigFrame
set_option linter.unusedSimpArgs false
set_option linter.unusedVariables false
set_option maxRecDepth 100000
theorem unless_any (ok : Bool) {k : Nat} (hk : 1 ≤ k) (w : World) : Calls Tryz.prog 103 #[.bool ok, .int .i64 (k : Int)] w fun e w' => e = .returned (if ok then .nilIface else errV k) ∧ w = w' := by
  obtain ⟨j, rfl⟩ : ∃ j, k = j + 1 := ⟨k - 1, by omega⟩
  cases ok
  · go_enter Tryz.func103, Tryz.ntmps103
    go_wp2
    go_ret
    exact ⟨rfl, rfl⟩
  · go_enter Tryz.func103, Tryz.ntmps103
    go_wp2
    go_ret
    exact ⟨rfl, rfl⟩
/-- are the places of a step in reach? -/
def reachesB (kd at_ ln : Int) (m : Nat) : Bool := if kd = 8 then decide (0 ≤ at_) && decide (at_ ≤ 65536 - m) else if kd = 10 then decide (0 ≤ at_) && decide (at_ ≤ 65536) else decide (0 ≤ at_) && decide (0 ≤ ln)
theorem below_alloc_x (w : World) (o : Obj) : Below w.heap.size w (w.alloc o) := (Below.refl _ _).alloc (Nat.le_refl _) _
theorem reaches_any (kd at_ ln : Int) (nm : Value) (D : Option Addr) (m c : Nat) (hm : m ≤ 1000000) (hnm : nm.cells = #[nm]) (w : World) : Calls Tryz.prog 105 #[.agg #[.int .i64 kd, .int .i64 at_, .int .i64 ln, nm, .slice D m c]] w fun e w' => e = .returned (.bool (reachesB kd at_ ln m)) ∧ Below w.heap.size w w' := by
  have hw : IntKind.i64.wrap (65536 - (m : Int)) = 65536 - (m : Int) := by rw [IntKind.wrap_i64]; omega
  by_cases h8 : kd = 8
  · subst h8
    by_cases ha : 0 ≤ at_
    · have hda : decide (0 ≤ at_) = true := decide_eq_true ha
      go_enter Tryz.func105, Tryz.ntmps105
      go_wp2
      go_ret
      exact ⟨by simp [reachesB, hda], below_alloc_x _ _⟩
    · have hda : decide (0 ≤ at_) = false := decide_eq_false ha
      go_enter Tryz.func105, Tryz.ntmps105
      go_wp2
      go_ret
      exact ⟨by simp [reachesB, hda], below_alloc_x _ _⟩
  · have hd8 : decide (kd = 8) = false := decide_eq_false h8
    by_cases h10 : kd = 10
    · subst h10
      by_cases ha : 0 ≤ at_
      · have hda : decide (0 ≤ at_) = true := decide_eq_true ha
        go_enter Tryz.func105, Tryz.ntmps105
        go_wp2
        go_ret
        exact ⟨by simp [reachesB, hda], below_alloc_x _ _⟩
      · have hda : decide (0 ≤ at_) = false := decide_eq_false ha
        go_enter Tryz.func105, Tryz.ntmps105
        go_wp2
        go_ret
        exact ⟨by simp [reachesB, hda], below_alloc_x _ _⟩
    · have hd10 : decide (kd = 10) = false := decide_eq_false h10
      by_cases ha : 0 ≤ at_
      · have hda : decide (0 ≤ at_) = true := decide_eq_true ha
        go_enter Tryz.func105, Tryz.ntmps105
        go_wp2
        go_ret
        exact ⟨by simp [reachesB, hda, h8, h10], below_alloc_x _ _⟩
      · have hda : decide (0 ≤ at_) = false := decide_eq_false ha
        go_enter Tryz.func105, Tryz.ntmps105
        go_wp2
        go_ret
        exact ⟨by simp [reachesB, hda, h8, h10], below_alloc_x _ _⟩
end Go.Proofs.YtfbpfgbmlbkffaaGreat

/-
  A store as data: objects, an operation's steps, which blocks are whose. No condition; nothing of the program is named.
-/
namespace Go.Proofs.YtfbpfgbmlbkffaaGreat
open Go.RowKit Go.BigFrame
set_option linter.unusedSimpArgs false
set_option linter.unusedVariables false
/-! ### two lists side by side -/
inductive Rel2 {α β : Type} (R : α → β → Prop) : List α → List β → Prop
  | nil : Rel2 R [] []
  | cons {a : α} {b : β} {l : List α} {m : List β} : R a b → Rel2 R l m → Rel2 R (a :: l) (b :: m)
section
variable {α β : Type} {R S : α → β → Prop} {l : List α} {m : List β}
theorem Rel2.len (h : Rel2 R l m) : l.length = m.length := by
  induction h with
  | nil => rfl
  | cons _ _ ih => simp [ih]
theorem Rel2.imp (h : Rel2 R l m) (hi : ∀ a b, R a b → S a b) : Rel2 S l m := by
  induction h with
  | nil => exact .nil
  | cons h1 _ ih => exact .cons (hi _ _ h1) ih
theorem Rel2.imp_mem (h : Rel2 R l m) (hi : ∀ a b, a ∈ l → b ∈ m → R a b → S a b) : Rel2 S l m := by
  induction h with
  | nil => exact .nil
  | cons h1 h2 ih => exact .cons (hi _ _ (by simp) (by simp) h1) (ih fun a b ha hb hr => hi a b (by simp [ha]) (by simp [hb]) hr)
theorem Rel2.at_ (h : Rel2 R l m) {k : Nat} {a : α} (hk : l[k]? = some a) : ∃ b, m[k]? = some b ∧ R a b := by
  induction h generalizing k with
  | nil => simp at hk
  | cons h1 _ ih =>
    cases k with
    | zero => simp at hk; subst hk; exact ⟨_, rfl, h1⟩
    | succ k => exact ih (by simpa using hk)
theorem Rel2.at' (h : Rel2 R l m) {k : Nat} {b : β} (hk : m[k]? = some b) : ∃ a, l[k]? = some a ∧ R a b := by
  induction h generalizing k with
  | nil => simp at hk
  | cons h1 _ ih =>
    cases k with
    | zero => simp at hk; subst hk; exact ⟨_, rfl, h1⟩
    | succ k => exact ih (by simpa using hk)
theorem Rel2.app {l' : List α} {m' : List β} (h : Rel2 R l m) (h' : Rel2 R l' m') : Rel2 R (l ++ l') (m ++ m') := by
  induction h with
  | nil => exact h'
  | cons h1 _ ih => exact .cons h1 ih
end
/-! ### rows of pairs that rise by their keys -/
section
variable {V : Type}
def gget (l : List (Key × V)) (k : Key) : Option V := (l.find? fun p => p.1 == k).map (·.2)
def gins (x : Key × V) : List (Key × V) → List (Key × V)
  | [] => [x]
  | y :: r => if bytesBefore x.1 y.1 then x :: y :: r else y :: gins x r
def gdel (k : Key) (l : List (Key × V)) : List (Key × V) := l.filter fun p => !(p.1 == k)
def gput (k : Key) (v : V) (l : List (Key × V)) : List (Key × V) := gins (k, v) (gdel k l)
theorem gins_len (x : Key × V) : ∀ l : List (Key × V), (gins x l).length = l.length + 1
  | [] => rfl
  | y :: r => by
    rw [gins]
    split
    · rfl
    · simp [gins_len x r]
theorem gdel_len (k : Key) (l : List (Key × V)) : (gdel k l).length ≤ l.length := List.length_filter_le _ _
theorem gput_len (k : Key) (v : V) (l : List (Key × V)) : (gput k v l).length ≤ l.length + 1 := by
  unfold gput
  rw [gins_len]
  have := gdel_len k l
  omega
theorem gins_perm (x : Key × V) : ∀ l : List (Key × V), (gins x l).Perm (x :: l)
  | [] => List.Perm.refl _
  | y :: r => by
    rw [gins]
    split
    · exact List.Perm.refl _
    · exact ((gins_perm x r).cons y).trans (List.Perm.swap x y r)
theorem gput_perm (k : Key) (v : V) (l : List (Key × V)) : (gput k v l).Perm ((k, v) :: gdel k l) := gins_perm _ _
theorem gget_some {l : List (Key × V)} {k : Key} {v : V} (h : gget l k = some v) : (k, v) ∈ l := by
  unfold gget at h
  cases hf : l.find? (fun p => p.1 == k) with
  | none => rw [hf] at h; cases h
  | some p =>
    rw [hf] at h
    simp at h
    have h1 := List.find?_some hf
    have h2 := List.mem_of_find?_eq_some hf
    simp at h1
    subst h h1
    exact h2
theorem gget_none {l : List (Key × V)} {k : Key} (h : gget l k = none) : ∀ p ∈ l, p.1 ≠ k := by
  unfold gget at h
  simp at h
  intro p hp e
  exact h p.1 p.2 hp e
def Keys1 (l : List (Key × V)) : Prop := (l.map (·.1)).Nodup
theorem Keys1.del {l : List (Key × V)} (h : Keys1 l) (k : Key) : Keys1 (gdel k l) := List.Nodup.sublist (List.filter_sublist.map _) h
theorem gdel_none (k : Key) (l : List (Key × V)) : ∀ p ∈ gdel k l, p.1 ≠ k ∧ p ∈ l := fun p hp => by
  simp [gdel] at hp
  exact ⟨hp.2, hp.1⟩
theorem Keys1.put {l : List (Key × V)} (h : Keys1 l) (k : Key) (v : V) : Keys1 (gput k v l) := by
  unfold Keys1
  rw [((gput_perm k v l).map (·.1)).nodup_iff]
  simp only [List.map_cons, List.nodup_cons]
  refine ⟨fun hm => ?_, h.del k⟩
  obtain ⟨p, hp, e⟩ := List.mem_map.1 hm
  exact (gdel_none k l p hp).1 e
theorem Keys1.get {l : List (Key × V)} (h : Keys1 l) {p : Key × V} (hp : p ∈ l) : gget l p.1 = some p.2 := by
  unfold gget
  have : l.find? (fun q => q.1 == p.1) = some p := by
    induction l with
    | nil => cases hp
    | cons q l ih =>
      unfold Keys1 at h
      simp only [List.map_cons, List.nodup_cons] at h
      rw [List.find?_cons]
      by_cases e : q.1 = p.1
      · have : (q.1 == p.1) = true := by simpa using e
        rw [this]
        rcases List.mem_cons.1 hp with rfl | hp
        · rfl
        · exact absurd (List.mem_map.2 ⟨p, hp, e.symm⟩) h.1
      · have : (q.1 == p.1) = false := by simpa using e
        rw [this]
        rcases List.mem_cons.1 hp with rfl | hp
        · exact absurd rfl e
        · exact ih h.2 hp
  rw [this]
  rfl
/-- the one, and the others -/
theorem gdel_perm {l : List (Key × V)} (h : Keys1 l) {k : Key} {v : V} (hg : gget l k = some v) : l.Perm ((k, v) :: gdel k l) := by
  induction l with
  | nil => cases hg
  | cons q l ih =>
    unfold Keys1 at h
    simp only [List.map_cons, List.nodup_cons] at h
    unfold gget at hg
    rw [List.find?_cons] at hg
    unfold gdel
    rw [List.filter_cons]
    by_cases e : q.1 = k
    · have he : (q.1 == k) = true := by simpa using e
      rw [he] at hg ⊢
      simp at hg
      have hq : q = (k, v) := by rw [← e, ← hg]
      have hd : l.filter (fun p => !(p.1 == k)) = l := List.filter_eq_self.2 fun p hp => by
        have : (p.1 == k) = false := by simpa using fun e' : p.1 = k => h.1 (List.mem_map.2 ⟨p, hp, e'.trans e.symm⟩)
        rw [this]; rfl
      simp only [Bool.not_true, Bool.false_eq_true, if_false]
      rw [hd, hq]
    · have he : (q.1 == k) = false := by simpa using e
      rw [he] at hg ⊢
      simp only [Bool.not_false, if_true]
      exact ((ih h.2 hg).cons q).trans (List.Perm.swap _ _ _)
theorem gdel_same {l : List (Key × V)} {k : Key} (hg : gget l k = none) : gdel k l = l := List.filter_eq_self.2 fun p hp => by
  simp
  exact gget_none hg p hp
theorem gget_put (k : Key) (v : V) (l : List (Key × V)) (h : Keys1 l) : gget (gput k v l) k = some v := (h.put k v).get (p := (k, v)) ((gput_perm k v l).mem_iff.2 (by simp))
end
theorem ains_eq (x : Key × Value) : ∀ l : KV, ains x l = gins x l
  | [] => rfl
  | y :: r => by rw [ains, gins, ains_eq x r]
theorem aput_eq (k : Key) (v : Value) (l : KV) : aput k v l = gput k v l := ains_eq _ _
section
variable {V : Type} {R : Key × Value → Key × V → Prop} {kv : KV} {l : List (Key × V)}
theorem Rel2.ins (hk : ∀ p q, R p q → p.1 = q.1) (h : Rel2 R kv l) {x : Key × Value} {y : Key × V} (hx : R x y) : Rel2 R (ains x kv) (gins y l) := by
  induction h with
  | nil => exact .cons hx .nil
  | @cons a b l m h1 h2 ih =>
    rw [ains, gins, hk _ _ hx, hk _ _ h1]
    split
    · exact .cons hx (.cons h1 h2)
    · exact .cons h1 ih
theorem Rel2.del (hk : ∀ p q, R p q → p.1 = q.1) (h : Rel2 R kv l) (k : Key) : Rel2 R (adel k kv) (gdel k l) := by
  induction h with
  | nil => exact .nil
  | @cons a b l m h1 h2 ih =>
    unfold adel gdel at ih ⊢
    rw [List.filter_cons, List.filter_cons, hk _ _ h1]
    split
    · exact .cons h1 ih
    · exact ih
theorem Rel2.put (hk : ∀ p q, R p q → p.1 = q.1) (h : Rel2 R kv l) {k : Key} {v : Value} {u : V} (hx : R (k, v) (k, u)) : Rel2 R (aput k v kv) (gput k u l) := (h.del hk k).ins hk hx
theorem Rel2.get (hk : ∀ p q, R p q → p.1 = q.1) (h : Rel2 R kv l) (k : Key) : (aget kv k = none ∧ gget l k = none) ∨ ∃ v u, aget kv k = some v ∧ gget l k = some u ∧ R (k, v) (k, u) := by
  induction h with
  | nil => exact .inl ⟨rfl, rfl⟩
  | @cons a b l m h1 h2 ih =>
    unfold aget gget at ih ⊢
    rw [List.find?_cons, List.find?_cons, hk _ _ h1]
    by_cases e : b.1 = k
    · have he : (b.1 == k) = true := by simpa using e
      rw [he]
      have ha : a = (k, a.2) := by rw [← e, ← hk _ _ h1]
      have hb : b = (k, b.2) := by rw [← e]
      refine .inr ⟨a.2, b.2, rfl, rfl, ?_⟩
      rw [← ha, ← hb]
      exact h1
    · have he : (b.1 == k) = false := by simpa using e
      rw [he]
      exact ih
theorem Rel2.keys (hk : ∀ p q, R p q → p.1 = q.1) (h : Rel2 R kv l) : kv.map (·.1) = l.map (·.1) := by
  induction h with
  | nil => rfl
  | cons h1 _ ih => simp [hk _ _ h1, ih]
end
/-! ### the model -/
structure StepV where
  kd : Int
  at_ : Int
  ln : Int
  nm : List Nat
  dt : List Nat
abbrev AL := List (Key × List Nat)
structure Ob where
  d : List Nat
  a : AL
  e : List (Nat × Nat)
structure Wk where
  th : Bool
  d : List Nat
  a : AL
  e : List (Nat × Nat)
  told : List (List Nat)
structure Mod where
  bl : List Bool
  fl : List Bool
  ob : List (Key × Ob)
def needsB (d : List Nat) : Nat := (d.length + 15) / 16
def partB (d : List Nat) (at_ n : Nat) : List Nat := (d.drop (min at_ d.length)).take (min n (d.length - min at_ d.length))
def zeroB (d : List Nat) (at_ n : Nat) : List Nat := d.take (min at_ d.length) ++ List.replicate (min n (d.length - min at_ d.length)) 0 ++ d.drop (min at_ d.length + min n (d.length - min at_ d.length))
def insideW (W : Wk) (x : StepV) : Wk × Nat :=
  if x.kd = 11 then (if isNameB x.nm && decide (x.dt.length ≤ 1024) then ({W with a := gput (keyB x.nm) x.dt W.a}, 0) else (W, 1))
  else if x.kd = 12 then ({W with a := gdel (keyB x.nm) W.a}, 0)
  else if x.kd = 14 then (match gget W.a (keyB x.nm) with | some v => ({W with told := W.told ++ [v]}, 0) | none => (W, 6))
  else if reachesB x.kd x.at_ x.ln x.dt.length = false then (W, 1)
  else if x.kd = 8 then ({W with d := writeB W.d x.at_.toNat x.dt}, 0)
  else if x.kd = 9 then ({W with d := zeroB W.d x.at_.toNat x.ln.toNat}, 0)
  else if x.kd = 10 then ({W with d := resizeB W.d x.at_.toNat}, 0)
  else ({W with told := W.told ++ [partB W.d x.at_.toNat x.ln.toNat]}, 0)
def becomeW (W : Wk) (b : Bool) : Wk := if W.th = b then W else {W with th := b, d := [], a := []}
def needW (bl : List Bool) (W : Wk) (x : StepV) : Nat :=
  if x.kd = 1 then (if W.th then 0 else 6)
  else if x.kd = 2 then (if W.th then 5 else 0)
  else if x.kd = 3 then (if gget W.a (keyB x.nm) = some x.dt then 0 else 7)
  else if x.kd = 4 then (if gget W.a (keyB x.nm) = none then 0 else 7)
  else if isClientB x.at_ then (if bl.getD x.at_.toNat false then 8 else 0) else 1
def stepW (bl : List Bool) (W : Wk) (x : StepV) : Wk × Nat :=
  if 1 ≤ x.kd ∧ x.kd ≤ 5 then (W, needW bl W x)
  else if x.kd = 6 then (becomeW W true, 0)
  else if x.kd = 7 then (becomeW W false, 0)
  else if 8 ≤ x.kd ∧ x.kd ≤ 14 then (if W.th then insideW W x else (W, 6))
  else (W, 2)
def runW (bl : List Bool) : Wk → List StepV → Wk × Nat
  | W, [] => (W, 0)
  | W, x :: xs => if (stepW bl W x).2 = 0 then runW bl (stepW bl W x).1 xs else stepW bl W x
def startW (M : Mod) (k : Key) : Wk := match gget M.ob k with | some o => ⟨true, o.d, o.a, o.e, []⟩ | none => ⟨false, [], [], [], []⟩
/-- which blocks it gets or gives -/
inductive FitR (fl : List Bool) (W : Wk) : List (Nat × Nat) → List Bool → Nat → Prop
  | give : needsB W.d < lens W.e → FitR fl W (shedR W.e.reverse (lens W.e - needsB W.d)).1.reverse (setA fl (shedR W.e.reverse (lens W.e - needsB W.d)).2 true) 0
  | full : lens W.e ≤ needsB W.d → cnt fl < needsB W.d - lens W.e → FitR fl W W.e fl 4
  | take {out : List (Nat × Nat)} : lens W.e ≤ needsB W.d → needsB W.d - lens W.e ≤ cnt fl → Chosen (hol 0 fl) (needsB W.d - lens W.e) out → FitR fl W (W.e ++ out) (setA fl out false) 0
def endM (M : Mod) (k : Key) (W : Wk) (es : List (Nat × Nat)) (fl : List Bool) : Mod := {M with fl := fl, ob := if W.th then gput k ⟨W.d, W.a, es⟩ M.ob else gdel k M.ob}
/-- an operation -/
inductive DoR (M : Mod) (nm : List Nat) (xs : List StepV) : Mod → Nat → List (List Nat) → Prop
  | range : (isNameB nm = false ∨ xs.length < 1 ∨ 16 < xs.length) → DoR M nm xs M 1 []
  | step : isNameB nm = true → 1 ≤ xs.length → xs.length ≤ 16 → (runW M.bl (startW M (keyB nm)) xs).2 ≠ 0 → DoR M nm xs M (runW M.bl (startW M (keyB nm)) xs).2 []
  | full {es : List (Nat × Nat)} {fl : List Bool} : isNameB nm = true → 1 ≤ xs.length → xs.length ≤ 16 → (runW M.bl (startW M (keyB nm)) xs).2 = 0 → FitR M.fl (runW M.bl (startW M (keyB nm)) xs).1 es fl 4 → DoR M nm xs M 4 []
  | done {es : List (Nat × Nat)} {fl : List Bool} : isNameB nm = true → 1 ≤ xs.length → xs.length ≤ 16 → (runW M.bl (startW M (keyB nm)) xs).2 = 0 → FitR M.fl (runW M.bl (startW M (keyB nm)) xs).1 es fl 0 → DoR M nm xs (endM M (keyB nm) (runW M.bl (startW M (keyB nm)) xs).1 es fl) 0 (runW M.bl (startW M (keyB nm)) xs).1.told
end Go.Proofs.YtfbpfgbmlbkffaaGreat
