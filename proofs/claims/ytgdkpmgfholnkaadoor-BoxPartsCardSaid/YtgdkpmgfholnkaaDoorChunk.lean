/-
  slices.Chunk over bytes: its iterator hands the rows of 106 in order. Conditions: the slice's bytes lie below n₀, and the loop's body keeps what lies there.
-/
import Derived.Test.YtgdkpmgfholnkaaDoorBoxPT
import Derived.Test.YtgdkpmgfholnkaaDoorFence
import Derived.Outline
import Derived.Handy
import Derived.Sort.QuietIn
namespace Go.Proofs.YtgdkpmgfholnkaaDoor
open Go.RowKit Go.Shelf Go.BigFrame
attribute [local go_sem] Oper.semAt_some
set_option linter.unusedSimpArgs false
set_option linter.unusedVariables false
def chunkA (A : Option Addr) (k : Nat) : Option Addr := A.map (·.add (106 * k))
def chunkN (d : List Nat) (k : Nat) : Nat := min 106 (d.length - 106 * k)
/-- the two blocks of a chunk's own lie as they lay -/
def Keep2 (Bs Bn : Nat) (W W' : World) : Prop := W'.heap[Bs]? = W.heap[Bs]? ∧ W'.heap[Bn]? = W.heap[Bn]?
theorem Keep2.refl (Bs Bn : Nat) (W : World) : Keep2 Bs Bn W W := ⟨rfl, rfl⟩
theorem Keep2.trans {Bs Bn : Nat} {A B C : World} (h : Keep2 Bs Bn A B) (k : Keep2 Bs Bn B C) : Keep2 Bs Bn A C := ⟨k.1.trans h.1, k.2.trans h.2⟩
theorem Keep2.drewN {Bs Bn : Nat} {A B : World} (h : Keep2 Bs Bn A B) (q : Nat) : Keep2 Bs Bn A (B.drewN q) := h
theorem Keep2.cells {Bs Bn : Nat} {A B : World} (h : Keep2 Bs Bn A B) {u v : Value} (h1 : A.cell? ⟨Bs, 0, none⟩ = some u) (h2 : A.cell? ⟨Bn, 0, none⟩ = some v) : B.cell? ⟨Bs, 0, none⟩ = some u ∧ B.cell? ⟨Bn, 0, none⟩ = some v :=
  ⟨(World.cell?_of_block (w := A) (a := ⟨Bs, 0, none⟩) h.1).trans h1, (World.cell?_of_block (w := A) (a := ⟨Bn, 0, none⟩) h.2).trans h2⟩
theorem Keep2.put {Bs Bn : Nat} {w : World} (h1 : Bs < w.heap.size) (h2 : Bn < w.heap.size) (W : World) (l : Nat) (o o' : Obj) (hl : w.heap.size ≤ l) (_ : W.heap[l]? = some o) (_ : o.isCells = false) (_ : o.isWalk = false) : Keep2 Bs Bn W (W.putObj l o') := by
  have hg := grownBy_putObj' W l o'
  have hlt : l < W.heap.size := by
    have h := (Array.getElem?_eq_some_iff.1 (by assumption : W.heap[l]? = some o)).1
    exact h
  exact ⟨hg.block Bs (by omega) (fun e => by injection e with e; omega), hg.block Bn (by omega) (fun e => by injection e with e; omega)⟩
def encC (A : Option Addr) (d : List Nat) (k : Nat) : Array Value := #[.slice (chunkA A k) (chunkN d k) (chunkN d k)]
set_option maxRecDepth 100000 in
set_option maxHeartbeats 2000000 in
theorem chunk1_in (F : Fence) (n : Nat) (hF : ∀ k, F.fn k) (hro : F.round = none) (hn : 1 ≤ n) (l Bs Bn : Nat) (A : Option Addr) (c : Nat) (d : List Nat) (hl : d.length ≤ 5000) (hc : d.length ≤ c) (hcm : c ≤ 9223372036854775807) (J Jx : List Nat → World → Prop)
    (hY : ∀ pre x W, J pre W → pre.length < pn d → YieldAt F (n - 1) Tryd.prog l (encC A d x) W fun e W' =>
      (e = .returned (.bool true) ∧ J (pre ++ [x]) W' ∧ Keep2 Bs Bn W W') ∨ (e = .returned (.bool false) ∧ Jx (pre ++ [x]) W'))
    (W : World) (hBc : W.cell? ⟨Bs, 0, none⟩ = some (.slice A d.length c)) (hNc : W.cell? ⟨Bn, 0, none⟩ = some (.int .i64 106)) (h0 : J [] W) (hJd : ∀ pre W q, J pre W → J pre (W.drewN q)) :
    CallsIn F n Tryd.prog 45 #[.func (.yield l) #[] #[], .pointer (some ⟨Bs, 0, none⟩), .pointer (some ⟨Bn, 0, none⟩)] W fun e W' => (∃ v, e = .returned v) ∧
      ((∃ ys, ys = List.range (pn d) ∧ J ys W') ∨ (∃ pre, (∃ k, k ≤ pn d ∧ pre = List.range k) ∧ Jx pre W')) := by
  refine callsIn_of_wp Tryd.func45 rfl (hF _) ?_ hro
  simp only [Tryd.ntmps45, List.size_toArray, List.length_cons, List.length_nil, Nat.reduceAdd, Nat.reduceSub, Array.replicate_succ, Array.replicate_zero, List.push_toArray, List.append_toArray, List.nil_append, List.cons_append]
  have HY := Lib.hid hY
  clear hY
  gi_wp2
  gi_loopw [4] (fun i wr => ∃ k : Nat, k ≤ pn d ∧ i = .int .i64 (106 * (k : Int)) ∧ J (List.range k) wr ∧ Keep2 Bs Bn W wr)
    (fun i _ => 5200 - (intOf i).toNat)
  case atStart => exact ⟨0, Nat.zero_le _, by simp, h0, Keep2.refl _ _ _⟩
  case round =>
    obtain ⟨k, hk, rfl, hJs, hnx⟩ := hrel
    obtain ⟨hc1, hc2⟩ := hnx.cells hBc hNc
    by_cases hlt : k < pn d
    · have Hs := Lib.hid (show List.range (k + 1) = List.range k ++ [k] from List.range_succ)
      have hkd : 106 * k < d.length := by unfold pn at hlt; omega
      have HH := Lib.hid (And.intro (fun q => HY.out _ k (wr.drewN q) (hJd _ _ q hJs) (by rw [List.length_range]; exact hlt)) (And.intro (fun q => hnx.drewN q) hlt))
      clear hJs hnx hlt hk
      obtain ⟨j, hj⟩ : ∃ j : Nat, j = 106 * k := ⟨_, rfl⟩
      have hji : 106 * (k : Int) = (j : Int) := by omega
      have Hj := Lib.hid (And.intro hj hji)
      rw [hji]
      rw [← hj] at hkd
      clear hj hji
      have hjd : (j : Int) < (d.length : Int) := by omega
      have hj0 : (0 : Int) ≤ (j : Int) := by omega
      have hjc : ¬ (c = j) := by omega
      by_cases hm : 106 ≤ d.length - j
      · have hmin : min 106 (d.length - j) = 106 := by omega
        have hmi : ¬ (((d.length - j : Nat) : Int) < 106) := by omega
        gi_wp2
        refine wpIn_region_quiet_lit hro (by kernel_rfl) (by kernel_rfl) ?_
        repeat (gi_big_quiet_step (fail))
        refine wpQuietIn_nil ?_
        rintro _ ⟨nq, rfl⟩
        obtain ⟨fn, tmps, assign, body, hy, hR⟩ := HH.out.1 nq
        dsimp only [encC, chunkA, chunkN] at hy
        rw [← Hj.out.1, hmin] at hy
        have hc1q : (wr.drewN nq).cell? ⟨Bs, 0, none⟩ = some (.slice A d.length c) := hc1
        have hc2q : (wr.drewN nq).cell? ⟨Bn, 0, none⟩ = some (.int .i64 106) := hc2
        clear hc1 hc2
        generalize hW : wr.drewN nq = wq at *
        have HB2 := HH.out.2.1 nq
        have Hlt := HH.out.2.2
        rw [hW] at HB2
        have HB3 := Lib.hid HB2
        clear HH HB2 hW
        gi_wp2
        refine hR.mono ?_
        rintro e W3 (⟨rfl, hJ3, hk3⟩ | ⟨rfl, hJx3⟩)
        · have hc3 : W3.cell? ⟨Bn, 0, none⟩ = some (.int .i64 106) := (hk3.cells hc1q hc2q).2
          gi_wp2
          go_roundw
          case rel => exact ⟨k + 1, by omega, by have := Hj.out.1; congr 1; omega, by rw [Hs.out]; exact hJ3, HB3.out.trans hk3⟩
          case measure => simp [intOf]; have := Hj.out.1; omega
        · gi_wp2
          refine bodyPost_ret (results_none rfl _ _ _) rfl ?_
          exact ⟨⟨_, rfl⟩, .inr ⟨_, ⟨k + 1, by omega, Hs.out.symm⟩, hJx3⟩⟩
      · have hmin : min 106 (d.length - j) = d.length - j := by omega
        have hmi : (((d.length - j : Nat) : Int) < 106) := by omega
        gi_wp2
        refine wpIn_region_quiet_lit hro (by kernel_rfl) (by kernel_rfl) ?_
        repeat (gi_big_quiet_step (fail))
        refine wpQuietIn_nil ?_
        rintro _ ⟨nq, rfl⟩
        obtain ⟨fn, tmps, assign, body, hy, hR⟩ := HH.out.1 nq
        dsimp only [encC, chunkA, chunkN] at hy
        rw [← Hj.out.1, hmin] at hy
        have hc1q : (wr.drewN nq).cell? ⟨Bs, 0, none⟩ = some (.slice A d.length c) := hc1
        have hc2q : (wr.drewN nq).cell? ⟨Bn, 0, none⟩ = some (.int .i64 106) := hc2
        clear hc1 hc2
        generalize hW : wr.drewN nq = wq at *
        have HB2 := HH.out.2.1 nq
        have Hlt := HH.out.2.2
        rw [hW] at HB2
        have HB3 := Lib.hid HB2
        clear HH HB2 hW
        gi_wp2
        refine hR.mono ?_
        rintro e W3 (⟨rfl, hJ3, hk3⟩ | ⟨rfl, hJx3⟩)
        · have hc3 : W3.cell? ⟨Bn, 0, none⟩ = some (.int .i64 106) := (hk3.cells hc1q hc2q).2
          gi_wp2
          go_roundw
          case rel => exact ⟨k + 1, by omega, by have := Hj.out.1; congr 1; omega, by rw [Hs.out]; exact hJ3, HB3.out.trans hk3⟩
          case measure => simp [intOf]; have := Hj.out.1; omega
        · gi_wp2
          refine bodyPost_ret (results_none rfl _ _ _) rfl ?_
          exact ⟨⟨_, rfl⟩, .inr ⟨_, ⟨k + 1, by omega, Hs.out.symm⟩, hJx3⟩⟩
    · obtain rfl : k = pn d := by omega
      have hge : ¬ (106 * ((pn d : Nat) : Int) < (d.length : Int)) := by unfold pn; omega
      gi_wp2
      go_end0
      exact ⟨⟨_, rfl⟩, .inl hJs⟩
theorem chunk_any (a : Option Addr) (len cap : Nat) (w : World) :
    Calls Tryd.prog 35 #[.slice a len cap, .int .i64 106] w fun e w' => e = .returned (.func (.func 45) #[] #[.pointer (some ⟨w.heap.size, 0, none⟩), .pointer (some ⟨w.heap.size + 1, 0, none⟩)]) ∧ w' = (w.alloc (.cells #[.slice a len cap] 22)).alloc (.cells #[.int .i64 106] 3) := by
  go_enter Tryd.func35, Tryd.ntmps35
  go_wp2
  go_ret
  exact ⟨rfl, rfl⟩
theorem drewN_grown (W : World) (q : Nat) : W.grownBy (W.drewN q) none := have h := World.grownBy.refl W none; ⟨h.os, h.tape, h.output, h.size, h.block⟩
theorem chunk_stops (F : Fence) (n : Nat) (hF : ∀ k, F.fn k) (hro : F.round = none) (hn : 1 ≤ n) (Bs Bn : Nat) (A : Option Addr) (c : Nat) (d : List Nat) (hl : d.length ≤ 5000) (hc : d.length ≤ c) (hcm : c ≤ 9223372036854775807) (w : World) (hBs : Bs < w.heap.size) (hBn : Bn < w.heap.size)
    (hcs : w.cell? ⟨Bs, 0, none⟩ = some (.slice A d.length c)) (hcn : w.cell? ⟨Bn, 0, none⟩ = some (.int .i64 106)) :
    SeqStopsK F n Tryd.prog 45 #[.pointer (some ⟨Bs, 0, none⟩), .pointer (some ⟨Bn, 0, none⟩)] (encC A d) (Keep2 Bs Bn) (fun ys => ys = List.range (pn d)) (fun pre => ∃ k, k ≤ pn d ∧ pre = List.range k) (pn d) w := fun l J Jx W hW hJ _ hY h0 =>
  chunk1_in F n hF hro hn l Bs Bn A c d hl hc hcm J Jx hY W ((hW.cell (p := ⟨Bs, 0, none⟩) hBs).trans hcs) ((hW.cell (p := ⟨Bn, 0, none⟩) hBn).trans hcn) h0
    (fun pre W1 q h => hJ pre W1 _ none h (drewN_grown W1 q) (fun r e => by cases e))
/-- a row that is handed reads as the data's -/
theorem chunk_bytes {w : World} {B : Nat} {A : Option Addr} {d : List Nat} (h : Bytes w B A d.length d) (x : Nat) : Bytes w B (chunkA A x) (chunkN d x) (prow d x) := by
  unfold chunkN
  by_cases hx : 106 * x < d.length
  · have h1 : Reads w B 1 (A.map (·.add (106 * x))) (d.length - 106 * x) (u8s (d.drop (106 * x))) := by
      have := h.1.cut (k := 106 * x) (cap := d.length + 1) (by omega) (by omega)
      rw [if_neg (by omega)] at this
      simpa [u8s, List.map_drop] using this
    have h2 : Bytes w B (chunkA A x) (d.length - 106 * x) (d.drop (106 * x)) := ⟨h1, fun b hb => h.2 b (List.mem_of_mem_drop hb)⟩
    have h3 := h2.take (k := min 106 (d.length - 106 * x)) (by omega)
    have e : (d.drop (106 * x)).take (min 106 (d.length - 106 * x)) = prow d x := by
      unfold prow
      rw [← List.length_drop, Nat.min_comm, ← List.take_take]
      exact List.take_of_length_le (by rw [List.length_take]; exact Nat.min_le_right _ _)
    rwa [e] at h3
  · have e : prow d x = [] := by unfold prow; rw [List.drop_of_length_le (by omega)]; rfl
    rw [e, show min 106 (d.length - 106 * x) = 0 by omega]
    exact ⟨Reads.none_, fun b hb => by cases hb⟩
end Go.Proofs.YtgdkpmgfholnkaaDoor
