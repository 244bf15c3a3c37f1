/-
  slices.Backward over the writes that wait: its iterator hands the elements from the last one on. Conditions: the slice's row lies below n₀, and the loop's body keeps what lies there.
-/
import Derived.Test.YtgcghoalepkdfaaSettle
import Derived.Test.YtgcghoalepkdfaaFence
namespace Go.Proofs.Ytgcghoalepkdfaa
open Go.RowKit Go.Shelf
attribute [local go_sem] Oper.semAt_some
/-- the first k that come, of L, from the last one on -/
def back (L : List (Int × Sec)) (k : Nat) : List (Nat × (Int × Sec)) := (List.range k).map fun j => (L.length - 1 - j, L[L.length - 1 - j]?.getD (0, Sec.zero))
theorem back_succ (L : List (Int × Sec)) (k : Nat) : back L (k + 1) = back L k ++ [(L.length - 1 - k, L[L.length - 1 - k]?.getD (0, Sec.zero))] := by simp [back, List.range_succ]
theorem back_len (L : List (Int × Sec)) (k : Nat) : (back L k).length = k := by simp [back]
theorem back_map (L : List (Int × Sec)) (k : Nat) (hk : k ≤ L.length) : (back L k).map (·.2) = L.reverse.take k := by
  apply List.ext_getElem
  · simp [back]; omega
  · intro j h1 h2
    have hj : j < k := by simp [back] at h1; exact h1
    simp only [back, List.map_map, List.getElem_map, List.getElem_range, Function.comp, List.getElem_take, List.getElem_reverse]
    rw [List.getElem?_eq_getElem (by omega)]
    rfl
theorem last_none (L : List (Int × Sec)) (i : Int) (h : ∀ p ∈ back L L.length, p.2.1 ≠ i) : lastOf i L = none := by
  have hm := back_map L L.length (Nat.le_refl _)
  rw [List.take_of_length_le (by simp)] at hm
  unfold lastOf
  rw [← hm, Option.map_eq_none_iff, List.find?_eq_none]
  intro x hx
  obtain ⟨p, hp, rfl⟩ := List.mem_map.1 hx
  simpa using h p hp
theorem last_some (L : List (Int × Sec)) (i : Int) (k : Nat) (hk : k ≤ L.length) (ini : List (Nat × (Int × Sec))) (x : Nat × (Int × Sec)) (e : back L k = ini ++ [x]) (h : ∀ p ∈ ini, p.2.1 ≠ i) (hx : x.2.1 = i) : lastOf i L = some x.2.2 := by
  have hm := back_map L k hk
  rw [e] at hm
  have hr : L.reverse = (ini.map (·.2) ++ [x.2]) ++ L.reverse.drop k := by
    have := List.take_append_drop k L.reverse
    rw [← hm] at this
    rw [List.map_append, List.map_cons, List.map_nil] at this
    exact this.symm
  unfold lastOf
  rw [hr, List.append_assoc, List.find?_append, List.find?_eq_none.2 (fun y hy => by
    obtain ⟨p, hp, rfl⟩ := List.mem_map.1 hy
    simpa using h p hp)]
  simp [hx]
def encB (x : Nat × (Int × Sec)) : Array Value := #[.int .i64 (x.1 : Int), .agg (wrc x.2).toArray]
set_option maxRecDepth 100000 in
set_option maxHeartbeats 2000000 in
theorem back1_in (F : Fence) (n : Nat) (hF : ∀ k, F.fn k) (hro : F.round = none) (hn : 1 ≤ n) (l Bs n₀ base : Nat) (A : Option Addr) (cap : Nat) (L : List (Int × Sec)) (hL : L.length ≤ 1000000) (J Jx : List (Nat × (Int × Sec)) → World → Prop)
    (hY : ∀ pre x W, J pre W → pre.length < L.length → YieldAt F (n - 1) Try.prog l (encB x) W fun e W' =>
      (e = .returned (.bool true) ∧ J (pre ++ [x]) W' ∧ Below n₀ W W') ∨ (e = .returned (.bool false) ∧ Jx (pre ++ [x]) W'))
    (W : World) (hBs : Bs < n₀) (hBc : W.cell? ⟨Bs, 0, none⟩ = some (.slice A L.length cap)) (hrow : W.ownsRow base 76 129 (.slice A L.length cap) L.length (L.flatMap wrc)) (hlt : ∀ k, k ∈ rowOf (.slice A L.length cap) → k < n₀) (h0 : J [] W) :
    CallsIn F n Try.prog 45 #[.func (.yield l) #[] #[], .pointer (some ⟨Bs, 0, none⟩)] W fun e W' => (∃ v, e = .returned v) ∧
      ((∃ ys, ys = back L L.length ∧ J ys W') ∨ (∃ pre, (∃ k, k ≤ L.length ∧ pre = back L k) ∧ Jx pre W')) := by
  refine callsIn_of_wp Try.func45 rfl (hF _) ?_ hro
  simp only [Try.ntmps45, List.size_toArray, List.length_cons, List.length_nil, Nat.reduceAdd, Nat.reduceSub, Array.replicate_succ, Array.replicate_zero, List.push_toArray, List.append_toArray, List.nil_append, List.cons_append]
  have Hrow := Lib.hid hrow
  have Hlt := Lib.hid hlt
  have HY := Lib.hid hY
  clear hrow hlt hY
  gi_wp2
  gi_loopw [3] (fun i wr => ∃ k : Nat, k ≤ L.length ∧ i = .int .i64 ((L.length : Int) - 1 - k) ∧ J (back L k) wr ∧ Below n₀ W wr)
    (fun i _ => (intOf i + 1).toNat)
  case atStart => exact ⟨0, Nat.zero_le _, by simp, h0, Below.refl _ _⟩
  case round =>
    obtain ⟨k, hk, rfl, hJs, hnx⟩ := hrel
    have hc1 : wr.cell? ⟨Bs, 0, none⟩ = some (.slice A L.length cap) := (hnx.cell (p := ⟨Bs, 0, none⟩) hBs).trans hBc
    by_cases hlt : k < L.length
    · have hrw := row_of (w' := wr) Hrow.out (fun j hj => hnx.block j (Hlt.out j hj))
      obtain ⟨j, hj⟩ : ∃ j : Nat, j = L.length - 1 - k := ⟨_, rfl⟩
      have hji : (L.length : Int) - 1 - k = (j : Int) := by omega
      obtain ⟨gw, x, rfl, hnc, hx, hr, hbg, hgl⟩ := row_at wr_len hrw rfl (show j < L.length by omega)
      have hxx : L[L.length - 1 - k]?.getD (0, Sec.zero) = x := by rw [← hj, hx]; rfl
      obtain ⟨fn, tmps, assign, body, hy, hR⟩ := HY.out _ (j, x) wr hJs (by rw [back_len]; exact hlt)
      have Hs := Lib.hid (show back L (k + 1) = back L k ++ [(j, x)] by rw [back_succ, hxx, hj])
      have hjl : j < L.length := by omega
      have hu := Try.underlying76
      have hi : (Try.prog.info? 76).map (·.size) = some (wrc x).length := by rw [wr_len]; exact write_size
      have Hj := Lib.hid hj
      have Hji := Lib.hid hji
      clear hxx hx hj
      rw [hji]
      clear hji
      dsimp only [encB] at hy
      gi_wp2_with (refine wpListIn_load_mid rfl 76 (.tmp 15) rfl gw (j * 129) rfl (wrc x) _ hr hu rfl hi ?_)
      refine hR.mono ?_
      rintro e W3 (⟨rfl, hJ3, hk3⟩ | ⟨rfl, hJx3⟩)
      · gi_wp2
        go_roundw
        case rel => exact ⟨k + 1, by omega, by have := Hji.out; congr 1; omega, by rw [Hs.out]; exact hJ3, hnx.trans hk3⟩
        case measure => simp [intOf]
      · gi_wp2
        refine bodyPost_ret (results_none rfl _ _ _) rfl ?_
        exact ⟨⟨_, rfl⟩, .inr ⟨_, ⟨k + 1, by omega, Hs.out.symm⟩, hJx3⟩⟩
    · obtain rfl : k = L.length := by omega
      gi_wp2
      go_end0
      exact ⟨⟨_, rfl⟩, .inl ⟨_, rfl, hJs⟩⟩
theorem backward_any (a : Option Addr) (len cap : Nat) (w : World) :
    Calls Try.prog 39 #[.slice a len cap] w fun e w' => e = .returned (.func (.func 45) #[] #[.pointer (some ⟨w.heap.size, 0, none⟩)]) ∧ w' = w.alloc (.cells #[.slice a len cap] 65) := by
  go_enter Try.func39, Try.ntmps39
  go_wp2
  go_ret
  exact ⟨rfl, rfl⟩
theorem back_stops (F : Fence) (n : Nat) (hF : ∀ k, F.fn k) (hro : F.round = none) (hn : 1 ≤ n) (Bs n₀ base : Nat) (A : Option Addr) (cap : Nat) (L : List (Int × Sec)) (hL : L.length ≤ 1000000) (w : World) (hBs : Bs < n₀) (hn₀ : n₀ ≤ w.heap.size)
    (hc : w.cell? ⟨Bs, 0, none⟩ = some (.slice A L.length cap)) (hrow : w.ownsRow base 76 129 (.slice A L.length cap) L.length (L.flatMap wrc)) (hlt : ∀ k, k ∈ rowOf (.slice A L.length cap) → k < n₀) :
    SeqStopsK F n Try.prog 45 #[.pointer (some ⟨Bs, 0, none⟩)] encB (Below n₀) (fun ys => ys = back L L.length) (fun pre => ∃ k, k ≤ L.length ∧ pre = back L k) L.length w := fun l J Jx W hW _ _ hY h0 =>
  back1_in F n hF hro hn l Bs n₀ base A cap L hL J Jx hY W hBs ((hW.cell (p := ⟨Bs, 0, none⟩) (by show Bs < w.heap.size; omega)).trans hc) (row_of hrow (fun j hj => hW.block j (by have := hlt j hj; omega))) hlt h0
end Go.Proofs.Ytgcghoalepkdfaa
