/-
  What the laws of marks ask of bytes and numbers: copies, rows side by side. Conditions: the rows read as they are said to.
-/
import Derived.Test.YtapbjaeimnafcaaRegL
import Derived.Test.YtapbjaeimnafcaaBuf
import Derived.Test.YtapbjaeimnafcaaErr
import Derived.Laws.MakeOwn
import Derived.WideShapes
import Derived.Laws.Strings
import Derived.Deep.QuietTactic
import Derived.BigQuiet
import Derived.Deep.LoopGhost
namespace Go.Proofs.Ytapbjaeimnafcaa
open Go.RowKit
set_option linter.unusedSimpArgs false
set_option maxRecDepth 100000
set_option linter.unusedVariables false
theorem Reads.since {w w' : World} {B size n : Nat} {A : Option Addr} {xs : List Value} (h : Reads w B size A n xs) (hb : Below w.heap.size w w') : Reads w' B size A n xs :=
  ⟨h.1, fun hn => by
    obtain ⟨ad, e, hB, hc⟩ := h.2 hn
    exact ⟨ad, e, hB, fun j u hu => (hb.cell (World.block_lt_of_cell? w _ (hc j u hu))).trans (hc j u hu)⟩⟩
theorem Bytes.since {w w' : World} {B n : Nat} {A : Option Addr} {bs : List Nat} (h : Bytes w B A n bs) (hb : Below w.heap.size w w') : Bytes w' B A n bs := ⟨h.1.since hb, h.2⟩
theorem below_alloc (w : World) (o : Obj) : Below w.heap.size w (w.alloc o) := (Below.refl _ _).alloc (Nat.le_refl _) _
/-- numbers as cells -/
def i64s (l : List Int) : List Value := l.map (.int .i64)
theorem i64s_length (l : List Int) : (i64s l).length = l.length := by simp [i64s]
def Ints (w : World) (B : Nat) (A : Option Addr) (n : Nat) (l : List Int) : Prop := Reads w B 1 A n (i64s l)
theorem Ints.len {w : World} {B n : Nat} {A : Option Addr} {l : List Int} (h : Ints w B A n l) : l.length = n := by have := h.1; rw [i64s_length] at this; omega
theorem Ints.only {w w' : World} {B n : Nat} {A : Option Addr} {l : List Int} {F : List Nat} (h : Ints w B A n l) (ho : Only F w w') (ha : ∀ a, A = some a → 0 < n → a.block ∉ F) : Ints w' B A n l :=
  ⟨h.1, fun hn => by
    obtain ⟨ad, e, hB, hc⟩ := h.2 hn
    exact ⟨ad, e, hB, fun j u hu => (ho.cell (World.block_lt_of_cell? w _ (hc j u hu)) (by rw [block_of_add]; exact ha ad e hn)).trans (hc j u hu)⟩⟩
theorem Ints.at_ {w : World} {B n k : Nat} {A : Option Addr} {l : List Int} (h : Ints w B A n l) (hk : k < n) : ∃ ad x, A = some ad ∧ l[k]? = some x ∧ w.cell? (ad.add k) = some (.int .i64 x) := by
  obtain ⟨ad, u, e, hb, hx, hc⟩ := Reads.at_ h hk
  have hl : k < l.length := by have := h.len; omega
  refine ⟨ad, l[k], e, List.getElem?_eq_getElem hl, ?_⟩
  rw [hc, ← hx]
  simp [i64s, hl]
theorem made_same (m k : Nat) (v : Value) (hm : 0 < m) : madeCells (List.replicate m v).toArray k = (List.replicate k v).toArray := by
  unfold madeCells
  apply Array.ext
  · simp
  · intro i h1 h2
    have h3 : i % m < m := Nat.mod_lt _ hm
    have h4 : i % (List.replicate m v).toArray.size < (List.replicate m v).toArray.size := by simpa using h3
    rw [Array.getElem_map, Array.getElem_range, getElem!_pos (List.replicate m v).toArray (i % (List.replicate m v).toArray.size) h4]
    simp
theorem int_info : (Try.prog.info? 3).map (fun i => (i.zero, i.size, i.bytes)) = some (some (.int .i64 0), 1, 8) := by kernel_rfl
theorem make_ints (q : Nat) (hq : q ≤ 9000000) (w : World) : (Instr.makeSlice 45 (.int .i64 q) (.int .i64 q)).run Try.prog w = .ok (.slice (some ⟨w.heap.size, 0, none⟩) q q) (w.alloc (.cells (List.replicate q (Value.int .i64 0)).toArray 3)) := by
  obtain ⟨i0, hi0, hz0, hz1, hz2⟩ := info_parts int_info
  have := run_make (P := Try.prog) w 45 3 i0 (.int .i64 0) Try.underlying45 hi0 hz0 .i64 .i64 q q (by omega) (by omega) (by rw [hz2]; omega) (by omega)
  rw [hz1] at this
  simp only [Int.toNat_natCast, Nat.mul_one] at this
  rw [this]
  have e : (Value.int .i64 0).cells = (List.replicate 1 (Value.int .i64 0)).toArray := rfl
  rw [e, made_same 1 q _ (by omega)]
/-- numbers of the call's own -/
def OwnI (w : World) (base : Nat) (v : Value) (n : Nat) (l : List Int) : Prop := w.ownsRow base 3 1 v n (i64s l)
theorem OwnI.ints {w : World} {base n c : Nat} {A : Option Addr} {l : List Int} (h : OwnI w base (.slice A n c) n l) : Ints w w.heap.size A n l := Reads.of_own h
theorem OwnI.weaken {w : World} {base base' n : Nat} {v : Value} {l : List Int} (h : OwnI w base v n l) (hb : base' ≤ base) : OwnI w base' v n l := row_weaken h hb
theorem OwnI.form {w : World} {base : Nat} {v : Value} {n : Nat} {l : List Int} (h : OwnI w base v n l) : ∃ (A : Option Addr) (cap : Nat), v = .slice A n cap ∧ ∀ a, A = some a → base ≤ a.block := by
  rcases h.2 with ⟨rfl, hx⟩ | ⟨g, cap, cur, rfl, hbg, hg, hnc, hcm, hcs, hpre⟩
  · have : n = 0 := by have := h.1; rw [hx] at this; simp at this; omega
    subst this
    exact ⟨none, 0, rfl, fun a ha => by cases ha⟩
  · exact ⟨some ⟨g, 0, none⟩, cap, rfl, fun a ha => by injection ha with ha; subst ha; exact hbg⟩
theorem OwnI.of_blk {w : World} {base g n : Nat} {l : List Int} (h : Blk w g 3 (i64s l).toArray) (hl : l.length = n) (hb : base ≤ g) (hn : n ≤ 9000000) : OwnI w base (.slice (some ⟨g, 0, none⟩) n n) n l :=
  ⟨by rw [i64s_length]; omega, .inr ⟨g, n, _, rfl, hb, h, Nat.le_refl _, by simp [maxLen]; omega, by simp [i64s_length, hl], by rw [List.take_of_length_le (by simp [i64s_length, hl])]⟩⟩
theorem ints_any (A A' : Option Addr) (n n' c c' B B' : Nat) (l l' : List Int) (w : World) (h : Ints w B A n l) (h' : Ints w B' A' n' l') (hn : n ≤ 9000000) (hn' : n' ≤ 9000000) :
    Calls Try.prog 27 #[.slice A n c, .slice A' n' c'] w fun e w' => ∃ b, e = .returned (.bool b) ∧ (l = l' → b = true) ∧ Below w.heap.size w w' := by
  have hl := h.len
  have hl' := h'.len
  by_cases hne : n = n'
  · subst hne
    go_enter Try.func27, Try.ntmps27
    go_wp2
    go_loopw [13] (fun i wr => ∃ k : Nat, k ≤ n ∧ i = .int .i64 k ∧ Below w.heap.size w wr) (fun i _ => n - (intOf i).toNat)
    case atStart => exact ⟨0, Nat.zero_le _, rfl, Below.refl _ _⟩
    case round =>
      obtain ⟨k, hk, rfl, hb⟩ := hrel
      by_cases hlt : k < n
      · obtain ⟨ad, x, rfl, hx, hc⟩ := (show Ints wr B A n l from Reads.since h hb).at_ hlt
        obtain ⟨ad', x', rfl, hx', hc'⟩ := (show Ints wr B' A' n l' from Reads.since h' hb).at_ hlt
        have hk0 : (0 : Int) ≤ (k : Int) := by omega
        have hk1 : (k : Int) < (n : Int) := by omega
        have Hx := Lib.hid hx
        have Hx' := Lib.hid hx'
        have Hb := Lib.hid hb
        clear hx hx' hb
        go_wp2_with fail
        by_cases hxx : x = x'
        · have hd : (x != x') = false := by simpa using hxx
          subst hxx
          go_quiet (fail)
          go_wp2
          exact ⟨⟨k + 1, by omega, by go_num, below_drewN Hb.out _⟩, by simp only [intOf]; omega⟩
        · have hd : (x != x') = true := by simpa using hxx
          go_quiet (fail)
          go_wp2
          go_ret
          exact ⟨false, rfl, fun e => by
            have h1 := Hx.out
            have h2 := Hx'.out
            rw [e, h2] at h1
            injection h1 with h1
            exact absurd h1.symm hxx, below_drewN Hb.out _⟩
      · go_wp2
        go_ret
        exact ⟨_, rfl, fun _ => rfl, hb⟩
  · have hd : ((n : Int) != (n' : Int)) = true := by simp; omega
    go_enter Try.func27, Try.ntmps27
    go_wp2
    go_ret
    exact ⟨_, rfl, fun e => absurd (by rw [← hl, ← hl', e]) hne, Below.refl _ _⟩
theorem u8ofNat_inj {x y : Nat} (hx : x < 256) (hy : y < 256) (h : UInt8.ofNat x = UInt8.ofNat y) : x = y := by
  have := congrArg UInt8.toNat h
  simp at this
  omega
theorem strOf_data (bs : List Nat) : (strOf bs).data.toList = bs.map UInt8.ofNat := by
  simp [strOf, strOfNums]
theorem strOf_inj {a b : List Nat} (ha : ∀ x ∈ a, x < 256) (hb : ∀ x ∈ b, x < 256) (h : strOf a = strOf b) : a = b := by
  have h1 := congrArg (fun s : ByteArray => s.data.toList) h
  simp only [strOf_data] at h1
  have hl : a.length = b.length := by simpa using congrArg List.length h1
  apply List.ext_getElem? 
  intro i
  have h2 := congrArg (fun l => l[i]?) h1
  simp only [List.getElem?_map] at h2
  by_cases hi : i < a.length
  · rw [List.getElem?_eq_getElem hi, List.getElem?_eq_getElem (by omega)] at h2 ⊢
    simp at h2
    rw [u8ofNat_inj (ha _ (List.getElem_mem hi)) (hb _ (List.getElem_mem (by omega))) h2]
  · rw [List.getElem?_eq_none (by omega), List.getElem?_eq_none (by omega)]
/-- bytes side by side, both ways -/
theorem same_iff (A A' : Option Addr) (n n' c c' B B' : Nat) (bs bs' : List Nat) (w : World) (h : Bytes w B A n bs) (h' : Bytes w B' A' n' bs') :
    Calls Try.prog 16 #[.slice A n c, .slice A' n' c'] w fun e w' => e = .returned (.bool (bs == bs')) ∧ w = w' := by
  have k1 := str_of (P := Try.prog) h c 22 9 5 Try.underlying22 Try.underlying5 Try.underlying9
  have k2 := str_of (P := Try.prog) h' c' 22 9 5 Try.underlying22 Try.underlying5 Try.underlying9
  have he : ((strOf bs).toList == (strOf bs').toList) = (bs == bs') := by
    rw [Bool.eq_iff_iff, beq_iff_eq, beq_iff_eq, ByteArray.toList_eq, ByteArray.toList_eq]
    exact ⟨fun e => strOf_inj h.2 h'.2 (Go.WideShapes.bytes_inj e), fun e => by rw [e]⟩
  have HE := Lib.hid he
  generalize strOf bs = s1 at *
  generalize strOf bs' = s2 at *
  clear h h' he
  go_enter Try.func16, Try.ntmps16
  go_wp2
  go_ret
  exact ⟨by simp [HE.out], rfl⟩
set_option maxHeartbeats 400000 in
theorem copy_any (A : Option Addr) (n c : Nat) (bs : List Nat) (w : World) (hn : n ≤ 1000000) (hb : Bytes w w.heap.size A n bs) :
    Calls Try.prog 10 #[.slice A n c] w fun e w' => ∃ g cap, e = .returned (.slice (some ⟨g, 0, none⟩) n cap) ∧ n + 2 ≤ cap ∧ w.heap.size ≤ g ∧
      Own w' w.heap.size (.slice (some ⟨g, 0, none⟩) (n + 2) cap) (n + 2) (bs ++ [165, 90]) ∧ Below w.heap.size w w' := by
  go_enter Try.func10, Try.ntmps10
  go_wp2_with (first
    | (refine make_bytes _ _ rfl rfl w.heap.size _ _ _ (n + 2) rfl rfl (by omega) (by omega) (Nat.le_refl _) ?_
       intro w1 h1 g1
       have b1 : Below w.heap.size w w1 := ⟨g1.os, g1.tape, g1.output, g1.size, fun i hi => g1.block i hi (by simp)⟩)
    | (refine app_bytes (.tmp 6) (.tmp 7) rfl rfl w.heap.size _ 0 [] rfl h1 w.heap.size A n c bs rfl (hb.below b1) (by omega) b1.size ?_
       intro v2 w2 h2 g2 a2
       have b2 : Below w.heap.size w w2 := below_own b1 h1 (Nat.le_refl _) g2 b1.size)
    | (refine app_bytes (.tmp 8) (.tmp 9) rfl rfl w.heap.size _ _ _ rfl (h2.alloc _) _ _ 2 2 [165, 90] rfl (Bytes.new _ _ _ _ (by decide)) (by omega) (Nat.le_trans b2.size (by simp)) ?_
       intro v3 w3 h3 g3 a3
       have b3 : Below w.heap.size w w3 := below_own (b2.alloc b2.size _) (h2.alloc _) (Nat.le_refl _) g3 (Nat.le_trans b2.size (by simp))
       have h3' : Own w3 w.heap.size v3 (n + 2) (bs ++ [165, 90]) := by simpa using h3
       clear h3
       obtain ⟨A3, cap3, rfl, hcap, hmax, hA3⟩ := h3'.form
       unfold maxLen at hmax
       obtain ⟨g, rfl, hg1, hg2⟩ : ∃ g, A3 = some ⟨g, 0, none⟩ ∧ w.heap.size ≤ g ∧ g < w3.heap.size := hA3.resolve_left (by omega)
       clear hA3))
  go_ret
  exact ⟨g, cap3, rfl, hcap, hg1, h3', b3⟩
theorem mine_bytes {w w0 : World} {B B0 g n cap : Nat} {A : Option Addr} {bs : List Nat} (hm : Own w B (.slice (some ⟨g, 0, none⟩) (n + 2) cap) (n + 2) (bs ++ [165, 90])) (hb : Bytes w0 B0 A n bs) :
    Bytes w w.heap.size (some ⟨g, 0, none⟩) n bs := by
  have hmb := hm.bytes (fun x hx => by
    rcases List.mem_append.1 hx with hx | hx
    · exact hb.2 x hx
    · simp at hx; omega)
  refine ⟨?_, hb.2⟩
  have := hmb.1.take (k := n) (by omega)
  rwa [u8s, ← List.map_take, List.take_left' (by have := hb.len; omega)] at this
set_option maxHeartbeats 400000 in
theorem kept_any (A : Option Addr) (n c g cap B : Nat) (bs : List Nat) (w : World) (hn : n ≤ 1000000) (hcap : n + 2 ≤ cap) (hb : Bytes w B A n bs)
    (hm : Own w B (.slice (some ⟨g, 0, none⟩) (n + 2) cap) (n + 2) (bs ++ [165, 90])) :
    Calls Try.prog 12 #[.slice (some ⟨g, 0, none⟩) n cap, .slice A n c] w fun e w' => e = .returned (.bool true) ∧ Below w.heap.size w w' := by
  have hmb := hm.bytes (fun x hx => by
    rcases List.mem_append.1 hx with hx | hx
    · exact hb.2 x hx
    · simp at hx; omega)
  have hm1 : Bytes w w.heap.size (some ⟨g, 0, none⟩) n bs := ⟨by
    have := hmb.1.take (k := n) (by omega)
    rwa [u8s, ← List.map_take, List.take_left' (by have := hb.len; omega)] at this, hb.2⟩
  have k1 := str_of (P := Try.prog) hm1 cap 22 9 5 Try.underlying22 Try.underlying5 Try.underlying9
  have k2 := str_of (P := Try.prog) hb c 22 9 5 Try.underlying22 Try.underlying5 Try.underlying9
  have hl := hb.len
  have c1 : w.cell? ⟨g, n, none⟩ = some (.int .u8 165) := by
    rw [World.ownsRow.cellAt hm n (by omega)]
    simp [u8s, u8, hl]
  have c2 : w.cell? ⟨g, n + 1, none⟩ = some (.int .u8 90) := by
    rw [World.ownsRow.cellAt hm (n + 1) (by omega)]
    simp [u8s, u8, hl, show n + 1 - n = 1 by omega]
  clear hl hmb hm1 hm hb
  generalize strOf bs = str at k1 k2
  go_enter Try.func12, Try.ntmps12
  go_wp2_with fail
  all_goals go_ret
  all_goals exact ⟨rfl, Below.refl _ _⟩
/-- the bytes ahead of the marks -/
theorem mine_own {w : World} {base g n cap : Nat} {bs m : List Nat} (h : Own w base (.slice (some ⟨g, 0, none⟩) (n + 2) cap) (n + 2) (bs ++ m)) (hl : bs.length = n) : Own w base (.slice (some ⟨g, 0, none⟩) n cap) n bs := by
  refine ⟨by rw [u8s_length]; omega, ?_⟩
  rcases h.2 with ⟨h, _⟩ | ⟨g', cap', cur, hv, h1, h2, h3, h4, h5, h6⟩
  · cases h
  · injection hv with e1 e2 e3
    injection e1 with e1
    injection e1 with e1
    subst e1 e3
    refine .inr ⟨g, cap, cur, rfl, h1, h2, by omega, h4, h5, ?_⟩
    have := congrArg (List.take (n * 1)) h6
    rw [List.take_take, u8s, List.map_append, List.take_left' (by simp; omega)] at this
    rw [show min (n * 1) ((n + 2) * 1) = n * 1 by omega] at this
    exact this
end Go.Proofs.Ytapbjaeimnafcaa
