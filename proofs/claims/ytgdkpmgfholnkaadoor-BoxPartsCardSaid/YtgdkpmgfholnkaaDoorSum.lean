/-
  What crc.Sum returns: the document's check sum of the parts' bytes one behind the other; and that the laws' fixed example stands. Conditions: each part reads as bytes and is no longer than a million; the package's table holds its sixteen numbers.
-/
import Derived.Test.YtgdkpmgfholnkaaDoorGo
import Derived.Lib.SlBytesConst
namespace Go.Proofs.YtgdkpmgfholnkaaDoor
open Go.RowKit
/-- parts of a text: where each lies, its length, its capacity, its bytes -/
def partVal (p : Option Addr × Nat × Nat × List Nat) : Value := .slice p.1 p.2.1 p.2.2.1
def Parts (w : World) (B : Nat) (A : Option Addr) (m : Nat) (ps : List (Option Addr × Nat × Nat × List Nat)) : Prop :=
  Reads w B 1 A m (ps.map partVal) ∧ ∀ p ∈ ps, Bytes w B p.1 p.2.1 p.2.2.2 ∧ p.2.1 ≤ 1000000
def textOf (ps : List (Option Addr × Nat × Nat × List Nat)) : List Nat := ps.flatMap fun p => p.2.2.2
theorem Parts.at_ {w : World} {B : Nat} {A : Option Addr} {m k : Nat} {ps : List (Option Addr × Nat × Nat × List Nat)} (h : Parts w B A m ps) (hk : k < m) :
    ∃ (ad : Addr) (p : Option Addr × Nat × Nat × List Nat), A = some ad ∧ ps[k]? = some p ∧ Bytes w B p.1 p.2.1 p.2.2.2 ∧ p.2.1 ≤ 1000000 ∧ w.cell? (ad.add k) = some (.slice p.1 p.2.1 p.2.2.1) := by
  obtain ⟨ad, u, e, hb, hx, hc⟩ := h.1.at_ hk
  have hl : k < ps.length := by have := h.1.1; simp at this; omega
  have hp := h.2 _ (List.getElem_mem hl)
  refine ⟨ad, ps[k], e, List.getElem?_eq_getElem hl, hp.1, hp.2, ?_⟩
  rw [hc, ← hx]
  simp [partVal, hl]
theorem textOf_lt {w : World} {B : Nat} {A : Option Addr} {m : Nat} {ps : List (Option Addr × Nat × Nat × List Nat)} (h : Parts w B A m ps) : ∀ b ∈ textOf ps, b < 256 := by
  intro b hb
  obtain ⟨p, hp, hbp⟩ := List.mem_flatMap.1 hb
  exact (h.2 p hp).1.2 b hbp
theorem textOf_take {ps : List (Option Addr × Nat × Nat × List Nat)} {k : Nat} {p : Option Addr × Nat × Nat × List Nat} (h : ps[k]? = some p) : textOf (ps.take (k + 1)) = textOf (ps.take k) ++ p.2.2.2 := by
  rw [List.take_add_one, h]; simp [textOf]
theorem textOf_take_lt {ps : List (Option Addr × Nat × Nat × List Nat)} {k : Nat} (h : ∀ b ∈ textOf ps, b < 256) : ∀ b ∈ textOf (ps.take k), b < 256 := by
  intro b hb
  obtain ⟨p, hp, hbp⟩ := List.mem_flatMap.1 hb
  exact h b (List.mem_flatMap.2 ⟨p, List.mem_of_mem_take hp, hbp⟩)
set_option maxHeartbeats 400000 in
theorem sum_any (A : Option Addr) (m c B : Nat) (ps : List (Option Addr × Nat × Nat × List Nat)) (w : World) (hm : m ≤ 1000000) (hb : Parts w B A m ps) (hT : Tab w) :
    Calls Tryd.prog 12 #[.slice A m c] w fun e w' => e = .returned (.int .u32 (Crc.sum (textOf ps))) ∧ w = w' := by
  have HT := Lib.hid hT
  clear hT
  go_enter Tryd.func12, Tryd.ntmps12
  go_wp2
  go_loop [3, 8] (fun r i => ∃ k : Nat, k ≤ m ∧ i = .int .i64 k ∧ r = .int .u32 (Crc.sum (textOf (ps.take k)) : Nat)) (fun _ i => m - (intOf i).toNat)
  case atStart => exact ⟨0, Nat.zero_le _, rfl, by simp [textOf, Crc.sum, Crc.go, Crc.over]⟩
  case round =>
    obtain ⟨k, hk, rfl, rfl⟩ := hrel
    by_cases hlt : k < m
    · obtain ⟨ad, p, rfl, hpk, hbp, hpn, hc⟩ := hb.at_ hlt
      obtain ⟨pA, pn, pc, pbs⟩ := p
      have Hend := Lib.hid (Crc.go_append 0 (textOf (ps.take k)) pbs (textOf_take_lt (textOf_lt hb)))
      have Htk := Lib.hid (textOf_take hpk)
      clear hpk
      have hs : Crc.sum (textOf (ps.take k)) < 4294967296 := Crc.go_lt _ _
      go_wp2_with (go_at_call 13; refine (go_any _ _ _ _ _ _ _ hs hpn hbp HT.out).mono ?_; rintro e w' ⟨rfl, rfl⟩)
      go_round
      case rel => exact ⟨k + 1, by omega, by go_num, by rw [Htk.out]; unfold Crc.sum; rw [← Hend.out]⟩
      case measure => simp [intOf]; omega
    · go_wp2
      go_ret
      refine ⟨ret_int ?_, rfl⟩
      rw [List.take_of_length_le (by have := hb.1.1; simp at this; omega)]
theorem Tab.pos {w : World} (h : Tab w) : 0 < w.heap.size := by
  have h0 := h 0 (by omega)
  rcases Nat.eq_zero_or_pos w.heap.size with e | e
  · simp [World.cell?, Array.getElem?_eq_none (show w.heap.size ≤ 0 by omega)] at h0
  · exact e
theorem Tab.keep {w w' : World} (h : Tab w) (hk : ∀ p : Addr, p.block < w.heap.size → w'.cell? p = w.cell? p) : Tab w' :=
  fun i hi => (hk ⟨0, i, none⟩ h.pos).trans (h i hi)
theorem Tab.below {w w' : World} (h : Tab w) (hb : Below w.heap.size w w') : Tab w' := h.keep fun _ hp => hb.cell hp
theorem Tab.alloc {w : World} (h : Tab w) (o : Obj) : Tab (w.alloc o) := h.keep fun p hp => World.cell?_alloc_lt w o p hp
theorem Tab.drewN {w : World} (h : Tab w) (n : Nat) : Tab (w.drewN n) := h
theorem Tab.drew {w : World} (h : Tab w) : Tab w.drew := h

theorem alive_parts (w : World) (t1 t2 : TypeId) (f1 f2 : Nat × Nat) (t3 : TypeId) (f3 : Nat × Nat) :
    Parts (((w.alloc (.cells (u8s [49, 50, 51, 52]).toArray t1 f1)).alloc (.cells (u8s [53, 54, 55, 56, 57]).toArray t2 f2)).alloc
      (.cells [Value.slice (some ⟨w.heap.size, 0, none⟩) 4 4, Value.slice (some ⟨w.heap.size + 1, 0, none⟩) 5 5].toArray t3 f3)) (w.heap.size + 3)
      (some ⟨w.heap.size + 1 + 1, 0, none⟩) 2 [(some ⟨w.heap.size, 0, none⟩, 4, 4, [49, 50, 51, 52]), (some ⟨w.heap.size + 1, 0, none⟩, 5, 5, [53, 54, 55, 56, 57])] := by
  refine ⟨?_, fun p hp => ?_⟩
  · have h := Reads.new ((w.alloc (.cells (u8s [49, 50, 51, 52]).toArray t1 f1)).alloc (.cells (u8s [53, 54, 55, 56, 57]).toArray t2 f2))
      [Value.slice (some ⟨w.heap.size, 0, none⟩) 4 4, Value.slice (some ⟨w.heap.size + 1, 0, none⟩) 5 5] t3 f3
    simp only [World.size_alloc] at h
    exact h
  · have h1 := ((Bytes.new w [49, 50, 51, 52] t1 f1 (by decide)).alloc (by simp) (.cells (u8s [53, 54, 55, 56, 57]).toArray t2 f2)).alloc (by simp)
      (.cells [Value.slice (some ⟨w.heap.size, 0, none⟩) 4 4, Value.slice (some ⟨w.heap.size + 1, 0, none⟩) 5 5].toArray t3 f3)
    have h2 := (Bytes.new (w.alloc (.cells (u8s [49, 50, 51, 52]).toArray t1 f1)) [53, 54, 55, 56, 57] t2 f2 (by decide)).alloc (by simp)
      (.cells [Value.slice (some ⟨w.heap.size, 0, none⟩) 4 4, Value.slice (some ⟨w.heap.size + 1, 0, none⟩) 5 5].toArray t3 f3)
    simp only [World.size_alloc] at h2
    rcases List.mem_cons.1 hp with rfl | hp
    · exact ⟨h1.more (by omega), by simp⟩
    · obtain rfl := List.mem_singleton.1 hp
      exact ⟨h2.more (by omega), by simp⟩
/-- parts, in a slice that was made just now -/
theorem Parts.new (w : World) (ps : List (Option Addr × Nat × Nat × List Nat)) (t : TypeId) (h : ∀ p ∈ ps, Bytes w w.heap.size p.1 p.2.1 p.2.2.2 ∧ p.2.1 ≤ 1000000) :
    Parts (w.alloc (.cells (ps.map partVal).toArray t)) (w.heap.size + 1) (some ⟨w.heap.size, 0, none⟩) ps.length ps := by
  refine ⟨?_, fun p hp => ⟨((h p hp).1.alloc (Nat.le_refl _) _).more (by omega), (h p hp).2⟩⟩
  have := Reads.new w (ps.map partVal) t (0, 0)
  rwa [List.length_map] at this
theorem Parts.new1 (w : World) {A : Option Addr} {n c : Nat} {bs : List Nat} (t : TypeId) (h : Bytes w w.heap.size A n bs) (hn : n ≤ 1000000) :
    Parts (w.alloc (.cells #[.slice A n c] t)) (w.heap.size + 1) (some ⟨w.heap.size, 0, none⟩) 1 [(A, n, c, bs)] :=
  Parts.new w [(A, n, c, bs)] t (fun p hp => by obtain rfl := List.mem_singleton.1 hp; exact ⟨h, hn⟩)
theorem Parts.new2 (w : World) {A A' : Option Addr} {n c n' c' : Nat} {bs bs' : List Nat} (t : TypeId) (h : Bytes w w.heap.size A n bs) (hn : n ≤ 1000000) (h' : Bytes w w.heap.size A' n' bs') (hn' : n' ≤ 1000000) :
    Parts (w.alloc (.cells #[.slice A n c, .slice A' n' c'] t)) (w.heap.size + 1) (some ⟨w.heap.size, 0, none⟩) 2 [(A, n, c, bs), (A', n', c', bs')] :=
  Parts.new w [(A, n, c, bs), (A', n', c', bs')] t (fun p hp => by
    rcases List.mem_cons.1 hp with rfl | hp
    · exact ⟨h, hn⟩
    · obtain rfl := List.mem_singleton.1 hp
      exact ⟨h', hn'⟩)
theorem Parts.at1 (w : World) (g : Nat) (hg : w.heap.size = g) {A : Option Addr} {n c : Nat} {bs : List Nat} (t : TypeId) (h : Bytes w w.heap.size A n bs) (hn : n ≤ 1000000) :
    Parts (w.alloc (.cells #[.slice A n c] t)) (g + 1) (some ⟨g, 0, none⟩) 1 [(A, n, c, bs)] := by
  subst hg
  exact Parts.new1 w t h hn
theorem textOf1 (A : Option Addr) (n c : Nat) (bs : List Nat) : textOf [(A, n, c, bs)] = bs := by simp [textOf]
theorem textOf2 (A A' : Option Addr) (n c n' c' : Nat) (bs bs' : List Nat) : textOf [(A, n, c, bs), (A', n', c', bs')] = bs ++ bs' := by simp [textOf]
theorem alive_sum : Crc.sum [49, 50, 51, 52, 53, 54, 55, 56, 57] = 3808858755 := by decide +kernel

set_option maxHeartbeats 400000 in
theorem alive_any (w : World) (hT : Tab w) :
    Calls Tryd.prog 9 #[] w fun e w' => e = .returned (.bool true) ∧ Below w.heap.size w w' := by
  have HT := Lib.hid hT
  clear hT
  have kc := fun (w : World) (C : Array Value) (n c : Nat) => Lib.run_convert_bytes_const (P := Tryd.prog) w 22 5 C n c Tryd.underlying22 Tryd.underlying5
  have kc1 := fun (w : World) (o : Obj) (C : Array Value) (n c : Nat) => kc (w.alloc o) C n c
  simp only [World.size_alloc] at kc1
  go_enter Tryd.func9, Tryd.ntmps9
  go_wp2_with fail
  clear kc kc1
  refine (sum_any _ _ _ _ _ _ (by omega) (alive_parts w _ _ _ _ _ _) (((HT.out.alloc _).alloc _).alloc _)).mono ?_
  rintro e w' ⟨rfl, rfl⟩
  rw [show textOf _ = [49, 50, 51, 52, 53, 54, 55, 56, 57] from rfl, alive_sum]
  go_wp2
  go_ret
  exact ⟨rfl, by go_grown⟩
end Go.Proofs.YtgdkpmgfholnkaaDoor
