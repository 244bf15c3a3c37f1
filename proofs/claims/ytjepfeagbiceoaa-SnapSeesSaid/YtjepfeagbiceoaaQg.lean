/-
  slices.Backward over numbers: its iterator hands them from the last one on. Conditions: the numbers lie below n₀, and the loop's body keeps what lies there.
-/
import Derived.Test.YtjepfeagbiceoaaQe
import Derived.Test.YtjepfeagbiceoaaFence
namespace Go.Proofs.Ytjepfeagbiceoaa
open Go.RowKit Go.Shelf
attribute [local go_sem] Oper.semAt_some
set_option linter.unusedSimpArgs false
set_option linter.unusedVariables false
/-- the first k that come, of L, from the last one on -/
def backI (L : List Int) (k : Nat) : List (Nat × Int) := (List.range k).map fun j => (L.length - 1 - j, L[L.length - 1 - j]?.getD 0)
theorem backI_succ (L : List Int) (k : Nat) : backI L (k + 1) = backI L k ++ [(L.length - 1 - k, L[L.length - 1 - k]?.getD 0)] := by simp [backI, List.range_succ]
theorem backI_len (L : List Int) (k : Nat) : (backI L k).length = k := by simp [backI]
theorem backI_map (L : List Int) (k : Nat) (hk : k ≤ L.length) : (backI L k).map (·.2) = L.reverse.take k := by
  apply List.ext_getElem
  · simp [backI]; omega
  · intro j h1 h2
    have hj : j < k := by simp [backI] at h1; exact h1
    simp only [backI, List.map_map, List.getElem_map, List.getElem_range, Function.comp, List.getElem_take, List.getElem_reverse]
    rw [List.getElem?_eq_getElem (by omega)]
    rfl
/-- the blocks below n but k0 are as they were -/
def KeepsBut (n k0 : Nat) (W W' : World) : Prop := ∀ k, k < n → k ≠ k0 → W'.heap[k]? = W.heap[k]?
theorem KeepsBut.refl (n k0 : Nat) (W : World) : KeepsBut n k0 W W := fun _ _ _ => rfl
theorem KeepsBut.trans {n k0 : Nat} {a b c : World} (h : KeepsBut n k0 a b) (h' : KeepsBut n k0 b c) : KeepsBut n k0 a c := fun k hk hn => (h' k hk hn).trans (h k hk hn)
theorem KeepsBut.of_below {n k0 : Nat} {a b : World} (h : Below n a b) : KeepsBut n k0 a b := fun k hk _ => h.block k hk
theorem keepsBut_b {n k0 : Nat} {w : World} (hn : n ≤ w.heap.size) : ∀ (W : World) (l : Nat) (o o' : Obj), w.heap.size ≤ l → W.heap[l]? = some o → o.isCells = false → o.isWalk = false → KeepsBut n k0 W (W.putObj l o') := fun W l o o' hl _ _ _ k hk _ => World.putObj_heap_other (by omega)
def encI (x : Nat × Int) : Array Value := #[.int .i64 (x.1 : Int), .int .i64 x.2]
set_option maxRecDepth 100000 in
set_option maxHeartbeats 2000000 in
theorem backI_in (F : Fence) (n : Nat) (hF : ∀ k, F.fn k) (hro : F.round = none) (hn : 1 ≤ n) (l Bs n₀ k0 : Nat) (A : Option Addr) (cap : Nat) (L : List Int) (hL : L.length ≤ 1000000) (J Jx : List (Nat × Int) → World → Prop)
    (hY : ∀ pre x W, J pre W → pre.length < L.length → YieldAt F (n - 1) Try.prog l (encI x) W fun e W' =>
      (e = .returned (.bool true) ∧ J (pre ++ [x]) W' ∧ KeepsBut n₀ k0 W W') ∨ (e = .returned (.bool false) ∧ Jx (pre ++ [x]) W'))
    (W : World) (hBs : Bs < n₀) (hBk : Bs ≠ k0) (hk0 : k0 ≤ n₀) (hBc : W.cell? ⟨Bs, 0, none⟩ = some (.slice A L.length cap)) (hrow : Ints W k0 A L.length L) (h0 : J [] W) :
    CallsIn F n Try.prog 101 #[.func (.yield l) #[] #[], .pointer (some ⟨Bs, 0, none⟩)] W fun e W' => (∃ v, e = .returned v) ∧
      ((∃ ys, ys = backI L L.length ∧ J ys W') ∨ (∃ pre, (∃ k, k ≤ L.length ∧ pre = backI L k) ∧ Jx pre W')) := by
  refine callsIn_of_wp Try.func101 rfl (hF _) ?_ hro
  simp only [Try.ntmps101, List.size_toArray, List.length_cons, List.length_nil, Nat.reduceAdd, Nat.reduceSub, Array.replicate_succ, Array.replicate_zero, List.push_toArray, List.append_toArray, List.nil_append, List.cons_append]
  have Hrow := Lib.hid hrow
  have HY := Lib.hid hY
  clear hrow hY
  gi_wp2
  gi_loopw [3] (fun i wr => ∃ k : Nat, k ≤ L.length ∧ i = .int .i64 ((L.length : Int) - 1 - k) ∧ J (backI L k) wr ∧ KeepsBut n₀ k0 W wr)
    (fun i _ => (intOf i + 1).toNat)
  case atStart => exact ⟨0, Nat.zero_le _, by simp, h0, KeepsBut.refl _ _ _⟩
  case round =>
    obtain ⟨k, hk, rfl, hJs, hnx⟩ := hrel
    have hc1 : wr.cell? ⟨Bs, 0, none⟩ = some (.slice A L.length cap) := (World.cell?_of_block (hnx Bs hBs hBk)).trans hBc
    by_cases hlt : k < L.length
    · have hrw : Ints wr k0 A L.length L := Reads.keep Hrow.out fun p hp => World.cell?_of_block (hnx p.block (by omega) (by omega))
      obtain ⟨j, hj⟩ : ∃ j : Nat, j = L.length - 1 - k := ⟨_, rfl⟩
      have hji : (L.length : Int) - 1 - k = (j : Int) := by omega
      obtain ⟨ad, x, rfl, hx, hc⟩ := hrw.at_ (show j < L.length by omega)
      have hxx : L[L.length - 1 - k]?.getD 0 = x := by rw [← hj, hx]; rfl
      obtain ⟨fn, tmps, assign, body, hy, hR⟩ := HY.out _ (j, x) wr hJs (by rw [backI_len]; exact hlt)
      have Hs := Lib.hid (show backI L (k + 1) = backI L k ++ [(j, x)] by rw [backI_succ, hxx, hj])
      have hjl : j < L.length := by omega
      have Hj := Lib.hid hj
      have Hji := Lib.hid hji
      clear hxx hx hj hrw
      rw [hji]
      clear hji
      dsimp only [encI] at hy
      gi_wp2
      refine hR.mono ?_
      rintro e W3 (⟨rfl, hJ3, hk3⟩ | ⟨rfl, hJx3⟩)
      · gi_wp2
        go_roundw
        case rel => exact ⟨k + 1, by omega, by have := Hji.out; congr 1; omega, by rw [Hs.out]; exact hJ3, hnx.trans hk3⟩
        case measure => simp [intOf]
      · gi_wp2
        refine bodyPost_ret (results_none rfl _ _ _) rfl ?_
        exact ⟨⟨_, rfl⟩, .inr ⟨_, ⟨k + 1, by omega, Hs.out.symm⟩, hJx3⟩⟩
    · obtain rfl : k = L.length := by omega
      gi_wp2
      go_end0
      exact ⟨⟨_, rfl⟩, .inl ⟨_, rfl, hJs⟩⟩
theorem backwardI_any (a : Option Addr) (len cap : Nat) (w : World) :
    Calls Try.prog 100 #[.slice a len cap] w fun e w' => e = .returned (.func (.func 101) #[] #[.pointer (some ⟨w.heap.size, 0, none⟩)]) ∧ w' = w.alloc (.cells #[.slice a len cap] 26) := by
  go_enter Try.func100, Try.ntmps100
  go_wp2
  go_ret
  exact ⟨rfl, rfl⟩
theorem backI_stops (F : Fence) (n : Nat) (hF : ∀ k, F.fn k) (hro : F.round = none) (hn : 1 ≤ n) (Bs n₀ k0 : Nat) (A : Option Addr) (cap : Nat) (L : List Int) (hL : L.length ≤ 1000000) (w : World) (hBs : Bs < n₀) (hBk : Bs ≠ k0) (hk0 : k0 ≤ n₀) (hn₀ : n₀ ≤ w.heap.size)
    (hc : w.cell? ⟨Bs, 0, none⟩ = some (.slice A L.length cap)) (hrow : Ints w k0 A L.length L) :
    SeqStopsK F n Try.prog 101 #[.pointer (some ⟨Bs, 0, none⟩)] encI (KeepsBut n₀ k0) (fun ys => ys = backI L L.length) (fun pre => ∃ k, k ≤ L.length ∧ pre = backI L k) L.length w := fun l J Jx W hW _ _ hY h0 =>
  backI_in F n hF hro hn l Bs n₀ k0 A cap L hL J Jx hY W hBs hBk hk0 ((hW.cell (p := ⟨Bs, 0, none⟩) (by show Bs < w.heap.size; omega)).trans hc) (Reads.keep hrow fun p hp => hW.cell (by omega)) h0
end Go.Proofs.Ytjepfeagbiceoaa
