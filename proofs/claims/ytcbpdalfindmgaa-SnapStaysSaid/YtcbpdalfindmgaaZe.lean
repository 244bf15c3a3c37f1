/-
  Rows of bytes of the call's own: noughts behind them, their beginnings and ends, bytes written into them; an object's head changed in memory. No condition but the sizes.
-/
import Derived.Test.YtcbpdalfindmgaaZd
import Derived.Lib.AppendZerosOnto
import Derived.Lib.SliceRun
import Derived.Laws.CopyRow

namespace Go.Proofs.Ytcbpdalfindmgaa
open Go.RowKit Go.BigFrame
set_option linter.unusedSimpArgs false
set_option linter.unusedVariables false
set_option maxRecDepth 100000
theorem zero_list (k : Nat) : (Builtin.zeroCells (Value.int .u8 0).cells k).toList = List.replicate k (Value.int .u8 0) := by
  apply List.ext_getElem?
  intro j
  by_cases hj : j < k
  · simp [Builtin.zeroCells, Value.cells, hj, Nat.mod_one]
  · simp [Builtin.zeroCells, Value.cells, hj]
theorem zero_arr (k : Nat) : Builtin.zeroCells (Value.int .u8 0).cells k = (List.replicate k (Value.int .u8 0)).toArray := by
  rw [← zero_list]
theorem run_zeros_own {w : World} {base n k : Nat} {v : Value} {xs : List Value} (hown : w.ownsRow base 5 1 v n xs) (h0 : 0 < k) (hn : n + k ≤ 10000000) (hbase : base ≤ w.heap.size) (ty : TypeId) :
    ∃ v' w', (Builtin.append_ #[22, 3] ty #[v, .int .i64 (k : Int)]).run Try.prog w = .ok v' w' ∧ w'.ownsRow base 5 1 v' (n + k) (xs ++ List.replicate k (Value.int .u8 0)) ∧ w.grownBy w' v.ownBlock ∧ (v'.ownBlock = v.ownBlock ∨ v'.ownBlock = some w.heap.size) := by
  obtain ⟨i0, hi0, hz0, hz1, hz2⟩ := info_parts byte_info
  have hlen : (xs ++ List.replicate k (Value.int .u8 0)).length = (n + k) * 1 := by rw [List.length_append, hown.1]; simp
  have grown : ∀ (old : Nat), old < n + k → ∀ (row : Option Nat),
      (w.drew.alloc (.cells (xs.toArray ++ Builtin.zeroCells (Value.int .u8 0).cells k ++ Builtin.zeroCells (Value.int .u8 0).cells (grownCap w (n + k) old 5 - (n + k))) 5)).ownsRow base 5 1
        (.slice (some ⟨w.heap.size, 0, none⟩) (n + k) (grownCap w (n + k) old 5)) (n + k) (xs ++ List.replicate k (Value.int .u8 0)) ∧
      w.grownBy (w.drew.alloc (.cells (xs.toArray ++ Builtin.zeroCells (Value.int .u8 0).cells k ++ Builtin.zeroCells (Value.int .u8 0).cells (grownCap w (n + k) old 5 - (n + k))) 5)) row := by
    intro old ho row
    have hge := grownCap_ge w (n + k) old 5
    have hcm : grownCap w (n + k) old 5 ≤ maxLen := grownCap_le_maxLen w (n + k) old 5 (by simp only [maxLen]; omega)
    refine ⟨⟨hlen, .inr ⟨w.heap.size, _, _, rfl, hbase, heap_alloc_new w.drew _, hge, hcm, ?_, ?_⟩⟩, ⟨rfl, rfl, rfl, by simp, fun j hj _ => heap_alloc_old w.drew _ hj⟩⟩
    · simp only [Array.size_append, List.size_toArray, size_zeroCells, hown.1]
      simp [Value.cells]
      omega
    · rw [zero_arr, zero_arr]
      simp only [Array.toList_append, List.append_assoc]
      rw [← List.append_assoc, ← hlen]
      exact List.take_left
  rcases hown.2 with ⟨rfl, rfl⟩ | ⟨g, cap, cur, rfl, hbg, hg, hnc, hcm, hcs, htake⟩
  · have hx : xs = [] := List.eq_nil_of_length_eq_zero (by simpa using hown.1)
    subst hx
    have hr := Lib.run_append_nil_zeros (P := Try.prog) w 22 3 ty 5 i0 (.int .u8 0) .i64 .i64 Try.underlying22 Try.underlying3 hi0 hz0 k h0 (by omega) (by omega) (by rw [hz2]; omega)
    have hgr := grown 0 (by omega) (Value.ownBlock (.slice none 0 0))
    simp only [Nat.zero_add, List.nil_append, Array.empty_append] at hgr ⊢
    exact ⟨_, _, hr, hgr.1, hgr.2, .inr rfl⟩
  · by_cases hroom : n + k ≤ cap
    · have hst := run_storeCells_at Try.prog g n 5 (List.replicate k (Value.int .u8 0)) 0 cur w hg (by simp; omega) (fun u hu => by rw [List.eq_of_mem_replicate hu]; rfl)
      simp only [Nat.add_zero] at hst
      have hkk : k ≠ 0 := by omega
      have hw : IntKind.i64.wrap (k : Int) = k := by rw [IntKind.wrap_i64]; omega
      have hneg : ¬ ((k : Int) < 0) := by omega
      have h48i : ¬ (281474976710656 < (k : Int) * (i0.bytes : Int)) := by rw [hz2]; omega
      have hns : ¬ (k * i0.size = 0) := by rw [hz1]; omega
      have hr : (Builtin.append_ #[22, 3] ty #[.slice (some ⟨g, 0, none⟩) n cap, .int .i64 (k : Int)]).run Try.prog w = .ok (.slice (some ⟨g, 0, none⟩) (n + k) cap) (w.setRow g (cur.toList.take n ++ List.replicate k (Value.int .u8 0) ++ cur.toList.drop (n + (List.replicate k (Value.int .u8 0)).length)).toArray) := by
        have hz := zero_list k
        simp [Builtin.append_, run_underlying Try.underlying22, run_underlying Try.underlying3, sizeOf, typeInfo, zeroValue, hi0, hz0, hz1, asInt, asIntOf, hw, hneg, h48i, hkk, hroom, Addr.add_lit] at hst ⊢
        rw [zero_arr]
        simp [hst]
      refine ⟨_, _, hr, ⟨hlen, .inr ⟨g, cap, _, rfl, hbg, setRow_heap w g cur _ 5 _ hg, hroom, hcm, ?_, ?_⟩⟩, ⟨rfl, rfl, rfl, by simp, fun j _ hj => setRow_other w g j _ (fun e => hj (by simp [Value.ownBlock, e]))⟩, .inl rfl⟩
      · simp only [List.size_toArray, List.length_append, List.length_take, List.length_drop, Array.length_toList, List.length_replicate]
        omega
      · have ht : cur.toList.take n = xs := by simpa using htake
        rw [ht, ← hlen]
        exact List.take_left
    · have holds : ∀ j u, xs[j]? = some u → w.cell? ((⟨g, 0, none⟩ : Addr).add j) = some u := hown.cells (g := g) rfl
      have hold := run_firstCells_some (P := Try.prog) w.drew i0.size n ⟨g, 0, none⟩ n cap xs (by rw [hz1]; exact hown.1) holds
      have hr := Lib.run_append_grow_zeros (P := Try.prog) w 22 3 ty 5 i0 (.int .u8 0) .i64 .i64 Try.underlying22 Try.underlying3 hi0 hz0 (some ⟨g, 0, none⟩) n cap xs hold k h0 (by omega) (by omega) (by omega) (by rw [hz2]; omega) (growslice_fits (by omega) (by rw [hz2]; omega))
      have hgr := grown cap (by omega) (Value.ownBlock (.slice (some ⟨g, 0, none⟩) n cap))
      exact ⟨_, _, hr, hgr.1, hgr.2, .inr rfl⟩
theorem own_len {w : World} {base n m c : Nat} {D : Option Addr} {bs : List Nat} (h : Own w base (.slice D m c) n bs) : m = n ∧ bs.length = n ∧ n ≤ c ∧ (D = none ∨ ∃ b, D = some ⟨b, 0, none⟩) := by
  have hl : bs.length = n := by have := h.1; rw [u8s_length] at this; omega
  rcases h.2 with ⟨e, h0⟩ | ⟨b, cap, cur, e, hb, hh, h1, _⟩
  · injection e with e1 e2 e3
    exact ⟨by omega, hl, by omega, .inl e1⟩
  · injection e with e1 e2 e3
    exact ⟨e2, hl, by omega, .inr ⟨b, e1⟩⟩
theorem own_take {w : World} {base m c n : Nat} {D : Option Addr} {bs : List Nat} (h : Own w base (.slice D m c) m bs) (hn : n ≤ m) : Own w base (.slice D n c) n (bs.take n) := by
  obtain ⟨-, hl, -, -⟩ := own_len h
  rcases h.2 with ⟨e, h0⟩ | ⟨b, cap, cur, e, hb, hh, h1, h2, h3, h4⟩
  · injection e with e1 e2 e3
    subst e1
    have : n = 0 := by omega
    subst this
    have hc : c = 0 := by omega
    subst hc
    exact Own.nil w base
  · injection e with e1 e2 e3
    subst e1 e3
    refine ⟨by rw [u8s_length]; simp; omega, .inr ⟨b, c, cur, rfl, hb, hh, by omega, h2, h3, ?_⟩⟩
    rw [show u8s (bs.take n) = (u8s bs).take n from by simp [u8s, List.map_take], ← h4, List.take_take]
    congr 1
    omega
theorem run_head_bytes (D : Option Addr) (m c n : Nat) (h : n ≤ c) (hD : D = none ∨ ∃ b, D = some ⟨b, 0, none⟩) (w : World) : (Instr.slice 22 (.slice D m c) none (some (.int .i64 (n : Int))) none).run Try.prog w = .ok (.slice D n c) w := by
  have hsz : ∀ w, (sizeOf (Try.prog.elem 22)).run Try.prog w = .ok 1 w := fun w => by kernel_rfl
  rw [run_slice_h w 22 D m c (by kernel_rfl) .i64 (n : Int) (by omega) (by omega), hsz]
  rcases hD with rfl | ⟨b, rfl⟩
  · simp [Result.andThen, sliced]
  · simp [Result.andThen, sliced, Addr.add]
theorem run_cut_bytes (A : Option Addr) (m c k : Nat) (hk : k ≤ m) (w : World) : (Instr.slice 22 (.slice A m c) (some (.int .i64 k)) none none).run Try.prog w = .ok (.slice (if c = k then A else A.map (·.add (k * 1))) (m - k) (c - k)) w := by
  have hsz : ∀ w, (sizeOf (Try.prog.elem 22)).run Try.prog w = .ok 1 w := fun w => by kernel_rfl
  rw [run_slice_l w 22 A m c (by kernel_rfl) .i64 k (by omega) (by omega), hsz]
  simp only [Result.andThen, sliced, Int.toNat_natCast]
theorem own_copy {w : World} {base b n c at_ : Nat} {R nb : List Nat} (h : Own w base (.slice (some ⟨b, 0, none⟩) n c) n R) (hk : at_ + nb.length ≤ n) : ∃ cur : Array Value, Blk w b 5 cur ∧ at_ + nb.length ≤ cur.size ∧
    Own (w.setRow b (cur.toList.take at_ ++ u8s nb ++ cur.toList.drop (at_ + (u8s nb).length)).toArray) base (.slice (some ⟨b, 0, none⟩) n c) n (R.take at_ ++ nb ++ R.drop (at_ + nb.length)) ∧ Only [b] w (w.setRow b (cur.toList.take at_ ++ u8s nb ++ cur.toList.drop (at_ + (u8s nb).length)).toArray) := by
  obtain ⟨-, hl, -, -⟩ := own_len h
  rcases h.2 with ⟨e, h0⟩ | ⟨b', cap, cur, e, hb, hh, h1, h2, h3, h4⟩
  · cases e
  · injection e with e1 e2 e3
    injection e1 with e1
    injection e1 with e1
    subst e1 e3
    refine ⟨cur, hh, by omega, ⟨?_, .inr ⟨b, c, _, rfl, hb, setRow_heap w b cur _ 5 _ hh, h1, h2, ?_, ?_⟩⟩, ⟨rfl, rfl, rfl, by simp [World.setRow], fun k _ hk => setRow_other w b k _ (fun e => hk (by simp [e]))⟩⟩
    · rw [u8s_length]
      simp
      omega
    · simp [u8s_length]
      omega
    · have hcl : cur.toList.length = c := by simp; omega
      have h4' : cur.toList.take n = u8s R := by simpa using h4
      apply List.ext_getElem?
      intro j
      have hR : ∀ j, j < n → cur.toList[j]? = (u8s R)[j]? := fun j hj => by rw [← h4', List.getElem?_take, if_pos hj]
      have hu : u8s (R.take at_ ++ nb ++ R.drop (at_ + nb.length)) = (u8s R).take at_ ++ u8s nb ++ (u8s R).drop (at_ + nb.length) := by simp [u8s, List.map_take, List.map_drop]
      rw [hu, Nat.mul_one, List.getElem?_take]
      have hul : (u8s R).length = n := by rw [u8s_length]; exact hl
      by_cases hj : j < n
      · rw [if_pos hj]
        simp only [List.toList_toArray, List.getElem?_append, List.length_append, List.length_take, List.getElem?_take, List.getElem?_drop, u8s_length]
        rw [show min at_ cur.toList.length = at_ by omega, show min at_ R.length = at_ by omega]
        by_cases h5 : j < at_
        · rw [if_pos (by omega), if_pos h5, if_pos h5, if_pos (by omega), if_pos h5, if_pos h5]
          exact hR j hj
        · by_cases h6 : j < at_ + nb.length
          · rw [if_pos (by omega), if_neg h5, if_pos (by omega), if_neg h5]
          · rw [if_neg (by omega), if_neg (by omega)]
            rw [show at_ + nb.length + (j - (at_ + nb.length)) = j by omega]
            exact hR j hj
      · rw [if_neg hj, List.getElem?_eq_none]
        simp [u8s_length]
        omega
theorem clear_own {w : World} {base b n c at_ k : Nat} {R : List Nat} (h : Own w base (.slice (some ⟨b, 0, none⟩) n c) n R) (hk : at_ + k ≤ n) (h0 : 0 < k) :
    ∃ w', (∀ ty cc, (Builtin.clear_ #[22] ty #[.slice (some ⟨b, at_, none⟩) k cc]).run Try.prog w = .ok (.tuple #[]) w') ∧ Own w' base (.slice (some ⟨b, 0, none⟩) n c) n (R.take at_ ++ List.replicate k 0 ++ R.drop (at_ + k)) ∧ Only [b] w w' := by
  have hv : ∀ w, (zeroValue 5).run Try.prog w = .ok (.int .u8 0) w := fun w => by kernel_rfl
  obtain ⟨cur, hcur, hfit, hown, hon⟩ := own_copy (at_ := at_) (nb := List.replicate k 0) h (by simpa using hk)
  have hu : u8s (List.replicate k 0) = List.replicate k (Value.int .u8 0) := by simp [u8s, u8]
  have hst := run_storeCells_at Try.prog b at_ 5 (List.replicate k (Value.int .u8 0)) 0 cur w hcur (by simpa using hfit) (fun u hu => by rw [List.eq_of_mem_replicate hu]; rfl)
  rw [hu] at hown hon
  simp only [List.length_replicate] at hown hon hst
  refine ⟨_, fun ty cc => ?_, hown, hon⟩
  obtain ⟨m, rfl⟩ : ∃ m, k = m + 1 := ⟨k - 1, by omega⟩
  have hz := zero_list (m + 1)
  simp [Builtin.clear_, run_underlying Try.underlying22, hv, hz] at hst ⊢
  simp [hst]
theorem run_zeros_none {w : World} {base n : Nat} {v : Value} {xs : List Value} (hown : w.ownsRow base 5 1 v n xs) (ty : TypeId) :
    (Builtin.append_ #[22, 3] ty #[v, .int .i64 0]).run Try.prog w = .ok v w := by
  obtain ⟨i0, hi0, hz0, hz1, hz2⟩ := info_parts byte_info
  rcases hown.2 with ⟨rfl, rfl⟩ | ⟨g, cap, cur, rfl, hbg, hg, hnc, hcm, hcs, htake⟩
  · simp [Builtin.append_, run_underlying Try.underlying22, run_underlying Try.underlying3, sizeOf, typeInfo, zeroValue, hi0, hz0, hz1, asInt, asIntOf, IntKind.wrap_i64]
  · have hst : (storeCells ⟨g, n, none⟩ []).run Try.prog w = .ok () w := by simp [storeCells]
    simp [Builtin.append_, run_underlying Try.underlying22, run_underlying Try.underlying3, sizeOf, typeInfo, zeroValue, hi0, hz0, hz1, asInt, asIntOf, IntKind.wrap_i64, hnc, storeCells, Builtin.zeroCells]
/-- the head of an object of the call's own is another one -/
theorem OA.N.data {q : OA} {w w' : World} {g base c' : Nat} {cs : Array Value} {D' : Option Addr} {bs : List Nat} {th : Bool} (h : q.N w base) (K : Blk w g 36 cs) (ho : Only (g :: rowOf (.slice q.D 0 0)) w w') (hown : Own w' base (.slice D' bs.length c') bs.length bs) (hok : ∀ b ∈ bs, b < 256)
    (hnew : ∀ k ∈ rowOf (.slice D' 0 0), k ∈ rowOf (.slice q.D 0 0) ∨ w.heap.size ≤ k) : OA.N {q with th := th, dt := bs, D := D', cd := c'} w' base := by
  have hdis : ∀ a ∈ q.cl.map CA.dR, ∀ k ∈ rowOf (.slice q.D 0 0), k ∉ a := by
    have := h.dD
    unfold Dis at this
    rw [List.pairwise_cons] at this
    exact this.1
  have hkeep : ∀ k t cs', Blk w k t cs' → t = 3 ∨ t = 79 ∨ (t = 5 ∧ k ∉ rowOf (.slice q.D 0 0)) → w'.heap[k]? = w.heap[k]? := fun k t cs' hb ht => ho.block k hb.lt (fun hm => by
    rcases List.mem_cons.1 hm with e | hm
    · subst e
      refine hb.ne_ K ?_ rfl
      rcases ht with rfl | rfl | ⟨rfl, _⟩ <;> decide
    · obtain ⟨_, _, cs2, hb2⟩ := OA.P.dU h k hm
      rcases ht with rfl | rfl | ⟨_, hn⟩
      · exact hb.ne_ hb2 (by decide) rfl
      · exact hb.ne_ hb2 (by decide) rfl
      · exact hn hm)
  have hN : ∀ c ∈ q.cl, c.N w' base := fun c hc => (h.cl c hc).of (fun k hm => by obtain ⟨_, _, cs2, hb⟩ := (h.cl c hc).sU k hm; exact hkeep k _ cs2 hb (.inl rfl)) (fun k hm => by
    obtain ⟨_, _, cs2, hb⟩ := (h.cl c hc).dU k hm
    exact hkeep k _ cs2 hb (.inr (.inr ⟨rfl, fun hx => hdis _ (List.mem_map.2 ⟨c, hc, rfl⟩) k hx hm⟩)))
  refine ⟨hown, hok, row_of h.row fun k hk => by obtain ⟨cs2, hb⟩ := own_ty h.row hk; exact hkeep k _ cs2 hb (.inr (.inl rfl)), hN, h.q1, h.q2, ?_, h.dS⟩
  have h1 := h.dD
  unfold Dis at h1 ⊢
  rw [List.pairwise_cons] at h1 ⊢
  refine ⟨fun a ha k hk hx => ?_, h1.2⟩
  rcases hnew k hk with e | e
  · exact h1.1 a ha k e hx
  · obtain ⟨c, hc, rfl⟩ := List.mem_map.1 ha
    have := ((h.cl c hc).dU k hx).2.1
    omega
/-- what is done: the head's bytes -/
theorem DoesTo.of {w1 w' : World} {g base c' : Nat} {q : OA} {D' : Option Addr} {bs : List Nat} {th : Bool} {hd : Option (List Nat)} (h : q.N w1 base) (hS : q.Sm) (K : Blk w1 g 36 q.cs) (ho : Only (g :: rowOf (.slice q.D 0 0)) w1 w') (hown : Own w' base (.slice D' bs.length c') bs.length bs) (hok : ∀ b ∈ bs, b < 256)
    (hnew : ∀ k ∈ rowOf (.slice D' 0 0), k ∈ rowOf (.slice q.D 0 0) ∨ w1.heap.size ≤ k) (hl : bs.length ≤ 10000) (K' : Blk w' g 36 #[.bool th, .slice D' bs.length c', .int .i64 q.sq, .slice q.C q.cl.length q.cc]) (hh : hd = if th = true then some bs else none) (hth : th = false → bs = []) :
    DoesTo w1 g base q hd (.returned (.tuple #[])) w' := by
  refine ⟨rfl, {q with th := th, dt := bs, D := D', cd := c'}, ?_, K', h.data K ho hown hok hnew, ⟨hl, hS.cn, hS.cl⟩, ho⟩
  subst hh
  cases th with
  | true => rfl
  | false =>
    have := hth rfl
    subst this
    rfl
end Go.Proofs.Ytcbpdalfindmgaa

/-
  What may be done with an object's head, and what is done: Drop, Cut, Back. Conditions: the object lies where it is said to.
-/
namespace Go.Proofs.Ytcbpdalfindmgaa
open Go.RowKit Go.BigFrame
set_option linter.unusedSimpArgs false
set_option linter.unusedVariables false
set_option maxRecDepth 100000
theorem changes_any {w : World} {g : Nat} {th : Bool} {x1 x2 x3 : Value} (K : Blk w g 36 #[.bool th, x1, x2, x3]) (b : Bool) : Calls Try.prog 77 #[.pointer (some ⟨g, 0, none⟩), .bool b] w fun e w' => e = .returned (errV (if b = false then 1 else if th = false then 6 else 0)) ∧ w = w' := by
  have c0 : w.cell? ⟨g, 0, none⟩ = some (.bool th) := K.cell 0
  clear K
  cases b with
  | false =>
    go_enter Try.func77, Try.ntmps77
    go_wp2
    go_ret
    exact ⟨rfl, rfl⟩
  | true =>
    cases th with
    | false =>
      go_enter Try.func77, Try.ntmps77
      go_wp2
      go_ret
      exact ⟨rfl, rfl⟩
    | true =>
      go_enter Try.func77, Try.ntmps77
      go_wp2
      go_ret
      exact ⟨rfl, rfl⟩
/-! ### Drop -/
theorem dropMay (w : World) : MayC w 66 #[] 0 := fun w1 _ => by
  go_enter Try.func66, Try.ntmps66
  go_wp2
  go_ret
  exact ⟨rfl, Below.refl _ _⟩
theorem dropDoes (w : World) (q0 : OV) : DoesC w 67 #[] q0 none := fun w1 g q hb hg K hN hS hv => by
  subst hv
  have HK := Lib.hid K
  have HN := Lib.hid hN
  have HS := Lib.hid hS
  have f0 : w1.frozen? ⟨g, 0, none⟩ = false := K.frozen 0
  have f1 : w1.frozen? ⟨g, 1, none⟩ = false := K.frozen 1
  have c0 : w1.cell? ⟨g, 0, none⟩ = some (.bool q.th) := K.cell 0
  have c1 : w1.cell? ⟨g, 1, none⟩ = some (.slice q.D q.dt.length q.cd) := K.cell 1
  clear K hN hS
  show Calls Try.prog 67 #[.pointer (some ⟨g, 0, none⟩)] w1 _
  go_enter Try.func67, Try.ntmps67
  go_wp2
  refine bodyPost_end (results_none rfl _ _ _) rfl ?_
  have ho : Only (g :: rowOf (.slice q.D 0 0)) w1 ((w1.setCell ⟨g, 0, none⟩ (.bool false)).setCell ⟨g, 1, none⟩ (.slice none 0 0)) := ((Only.refl _ _).setCell (.inl (by simp)) _).setCell (.inl (by simp)) _
  refine DoesTo.of (D' := none) (bs := []) (c' := 0) (th := false) HN.out HS.out HK.out ho (Own.nil _ _) (fun b hb => (by cases hb)) (fun k hk => by simp [rowOf, Value.ownBlock] at hk) (by simp) ?_ (by simp) (fun _ => rfl)
  have := (HK.out.set_ 0 (.bool false)).set_ 1 (.slice none 0 0)
  simpa [OA.cs] using this
/-! ### Cut -/
def cutK (o : OV) (n : Int) : Nat := if ¬ (0 ≤ n ∧ n ≤ 256) then 1 else if o.th = false then 6 else 0
theorem cutMay {w : World} {po pn : Nat} (o : OA) (n : Int) (K : Blk w po 36 o.cs) (Kn : Blk w pn 3 #[.int .i64 n]) : MayC w 79 #[.pointer (some ⟨po, 0, none⟩), .pointer (some ⟨pn, 0, none⟩)] (cutK o.v n) := fun w1 hb => by
  have K1 := K.of (hb.block _ K.lt)
  have cn : w1.cell? ⟨pn, 0, none⟩ = some (.int .i64 n) := (Kn.of (hb.block _ Kn.lt)).cell 0
  have HT := Lib.hid (fun b => changes_any (b := b) K1)
  clear K Kn hb K1
  have hv : o.v.th = o.th := rfl
  by_cases h0 : 0 ≤ n
  · have d0 : decide (0 ≤ n) = true := decide_eq_true h0
    by_cases h1 : n ≤ 256
    · have d1 : decide (n ≤ 256) = true := decide_eq_true h1
      have HK : Hid (cutK o.v n = if o.th = false then 6 else 0) := Lib.hid (by unfold cutK; rw [if_neg (by omega), hv])
      have HT2 := Lib.hid (HT.out true)
      clear h0 h1 HT hv
      go_enter Try.func79, Try.ntmps79
      go_wp2_with fail
      refine HT2.out.mono ?_
      rintro e w' ⟨rfl, rfl⟩
      obtain ⟨kk, hkk⟩ : ∃ kk : Nat, kk = (if true = false then 1 else if o.th = false then 6 else 0) := ⟨_, rfl⟩
      rw [← hkk]
      have HKK := Lib.hid hkk
      clear hkk
      generalize hev : errV kk = ev
      have HEV := Lib.hid hev
      clear hev
      go_wp2
      go_ret
      rw [← HEV.out, HKK.out, HK.out]
      exact ⟨rfl, Below.refl _ _⟩
    · have d1 : decide (n ≤ 256) = false := decide_eq_false h1
      have HK : Hid (cutK o.v n = 1) := Lib.hid (by unfold cutK; rw [if_pos (by omega)])
      have HT2 := Lib.hid (HT.out false)
      clear h0 h1 HT hv
      go_enter Try.func79, Try.ntmps79
      go_wp2_with fail
      refine HT2.out.mono ?_
      rintro e w' ⟨rfl, rfl⟩
      go_wp2
      go_ret
      rw [HK.out]
      exact ⟨rfl, Below.refl _ _⟩
  · have d0 : decide (0 ≤ n) = false := decide_eq_false h0
    have HK : Hid (cutK o.v n = 1) := Lib.hid (by unfold cutK; rw [if_pos (by omega)])
    have HT2 := Lib.hid (HT.out false)
    clear h0 HT hv
    go_enter Try.func79, Try.ntmps79
    go_wp2_with fail
    refine HT2.out.mono ?_
    rintro e w' ⟨rfl, rfl⟩
    go_wp2
    go_ret
    rw [HK.out]
    exact ⟨rfl, Below.refl _ _⟩
set_option maxHeartbeats 4000000 in
theorem cutDoes {w : World} {pn : Nat} (q0 : OV) (n : Nat) (hn : n ≤ 256) (hth : q0.th = true) (Kn : Blk w pn 3 #[.int .i64 (n : Int)]) : DoesC w 80 #[.pointer (some ⟨pn, 0, none⟩)] q0 (some (q0.dt.take n)) := fun w1 g q hb hg K hN hS hv => by
  subst hv
  have Kn1 := Kn.of (hb.block _ Kn.lt)
  have hthq : q.th = true := hth
  have HK := Lib.hid K
  have HN := Lib.hid hN
  have HS := Lib.hid hS
  have HTH := Lib.hid hthq
  obtain ⟨-, hl, hmc, hD⟩ := own_len hN.dt
  have HDD := Lib.hid hD
  obtain ⟨k, hk⟩ : ∃ k, k = min n q.dt.length := ⟨_, rfl⟩
  have HKE := Lib.hid hk
  have hsl := run_head_bytes q.D q.dt.length q.cd k (by omega) hD
  have HC : Hid (∀ w' : World, (Blk w' g 36 #[.bool q.th, .slice q.D q.dt.length q.cd, .int .i64 q.sq, .slice q.C q.cl.length q.cc] ∧ Blk w' pn 3 #[.int .i64 (n : Int)]) → w'.cell? ⟨g, 1, none⟩ = some (.slice q.D q.dt.length q.cd) ∧ w'.cell? ⟨pn, 0, none⟩ = some (.int .i64 (n : Int))) := Lib.hid fun w' h => ⟨h.1.cell 1, h.2.cell 0⟩
  have hS7 : Blk w1.drew g 36 #[.bool q.th, .slice q.D q.dt.length q.cd, .int .i64 q.sq, .slice q.C q.cl.length q.cc] ∧ Blk w1.drew pn 3 #[.int .i64 (n : Int)] := ⟨K.drew, Kn1.drew⟩
  have hmin : (Builtin.min_ #[3, 3] 3 #[.int .i64 (n : Int), .int .i64 (q.dt.length : Int)]).run Try.prog w1 = .ok (.int .i64 (k : Int)) w1 ∨ True := .inr trivial
  have hsd := hS.dt
  clear K hN hS hth hthq hb Kn Kn1 hD hmin
  show Calls Try.prog 80 #[.pointer (some ⟨g, 0, none⟩), .pointer (some ⟨pn, 0, none⟩)] w1 _
  go_enter Try.func80, Try.ntmps80
  go_upto_region 0 with (fail)
  refine any_beginL (fun w' => Blk w' g 36 #[.bool q.th, .slice q.D q.dt.length q.cd, .int .i64 q.sq, .slice q.C q.cl.length q.cc] ∧ Blk w' pn 3 #[.int .i64 (n : Int)]) 15 (by kernel_rfl) ?_
  refine L_take (i := 0) (v := .pointer (some ⟨g, 0, none⟩)) rfl rfl (by kernel_rfl) (by kernel_rfl) (by kernel_rfl) (by kernel_rfl) (fun _ _ _ h => h) (Or.inl ⟨by rfl, fun w hw => by kernel_rfl⟩) hS7 ?_
  simp only [Act.put, List.getElem_toArray, List.getElem_cons_succ, List.getElem_cons_zero, List.setIfInBounds_toArray, List.set_cons_zero, List.set_cons_succ]
  refine L_take (i := 1) (v := .pointer (some ⟨g, 0, none⟩)) rfl rfl (by kernel_rfl) (by kernel_rfl) (by kernel_rfl) (by kernel_rfl) (fun _ _ _ h => h) (Or.inl ⟨by rfl, fun w hw => by kernel_rfl⟩) hS7 ?_
  simp only [Act.put, List.getElem_toArray, List.getElem_cons_succ, List.getElem_cons_zero, List.setIfInBounds_toArray, List.set_cons_zero, List.set_cons_succ]
  refine L_take (i := 2) (v := .pointer (some ⟨g, 0, none⟩)) rfl rfl (by kernel_rfl) (by kernel_rfl) (by kernel_rfl) (by kernel_rfl) (fun _ _ _ h => h) (Or.inl ⟨by rfl, fun w hw => by kernel_rfl⟩) hS7 ?_
  simp only [Act.put, List.getElem_toArray, List.getElem_cons_succ, List.getElem_cons_zero, List.setIfInBounds_toArray, List.set_cons_zero, List.set_cons_succ]
  refine L_take (i := 3) (v := .pointer (some ⟨g, 1, none⟩)) rfl rfl (by kernel_rfl) (by kernel_rfl) (by kernel_rfl) (by kernel_rfl) (fun _ _ _ h => h) (Or.inl ⟨by rfl, fun w hw => by go_simp⟩) hS7 ?_
  simp only [Act.put, List.getElem_toArray, List.getElem_cons_succ, List.getElem_cons_zero, List.setIfInBounds_toArray, List.set_cons_zero, List.set_cons_succ]
  refine L_take (i := 4) (v := .slice q.D q.dt.length q.cd) rfl rfl (by kernel_rfl) (by kernel_rfl) (by kernel_rfl) (by kernel_rfl) (fun _ _ _ h => h) (Or.inl ⟨by rfl, fun w hw => by have q1 := (HC.out w hw).1; go_simp⟩) hS7 ?_
  simp only [Act.put, List.getElem_toArray, List.getElem_cons_succ, List.getElem_cons_zero, List.setIfInBounds_toArray, List.set_cons_zero, List.set_cons_succ]
  refine L_take (i := 5) (v := .int .i64 (n : Int)) rfl rfl (by kernel_rfl) (by kernel_rfl) (by kernel_rfl) (by kernel_rfl) (fun _ _ _ h => h) (Or.inl ⟨by rfl, fun w hw => by have q1 := (HC.out w hw).2; go_simp⟩) hS7 ?_
  simp only [Act.put, List.getElem_toArray, List.getElem_cons_succ, List.getElem_cons_zero, List.setIfInBounds_toArray, List.set_cons_zero, List.set_cons_succ]
  refine L_take (i := 6) (v := .pointer (some ⟨g, 0, none⟩)) rfl rfl (by kernel_rfl) (by kernel_rfl) (by kernel_rfl) (by kernel_rfl) (fun _ _ _ h => h) (Or.inl ⟨by rfl, fun w hw => by kernel_rfl⟩) hS7 ?_
  simp only [Act.put, List.getElem_toArray, List.getElem_cons_succ, List.getElem_cons_zero, List.setIfInBounds_toArray, List.set_cons_zero, List.set_cons_succ]
  refine L_take (i := 7) (v := .pointer (some ⟨g, 0, none⟩)) rfl rfl (by kernel_rfl) (by kernel_rfl) (by kernel_rfl) (by kernel_rfl) (fun _ _ _ h => h) (Or.inl ⟨by rfl, fun w hw => by kernel_rfl⟩) hS7 ?_
  simp only [Act.put, List.getElem_toArray, List.getElem_cons_succ, List.getElem_cons_zero, List.setIfInBounds_toArray, List.set_cons_zero, List.set_cons_succ]
  refine L_take (i := 8) (v := .pointer (some ⟨g, 1, none⟩)) rfl rfl (by kernel_rfl) (by kernel_rfl) (by kernel_rfl) (by kernel_rfl) (fun _ _ _ h => h) (Or.inl ⟨by rfl, fun w hw => by go_simp⟩) hS7 ?_
  simp only [Act.put, List.getElem_toArray, List.getElem_cons_succ, List.getElem_cons_zero, List.setIfInBounds_toArray, List.set_cons_zero, List.set_cons_succ]
  refine L_take (i := 9) (v := .slice q.D q.dt.length q.cd) rfl rfl (by kernel_rfl) (by kernel_rfl) (by kernel_rfl) (by kernel_rfl) (fun _ _ _ h => h) (Or.inl ⟨by rfl, fun w hw => by have q1 := (HC.out w hw).1; go_simp⟩) hS7 ?_
  simp only [Act.put, List.getElem_toArray, List.getElem_cons_succ, List.getElem_cons_zero, List.setIfInBounds_toArray, List.set_cons_zero, List.set_cons_succ]
  refine L_take (i := 10) (v := .int .i64 (q.dt.length : Int)) rfl rfl (by kernel_rfl) (by kernel_rfl) (by kernel_rfl) (by kernel_rfl) (fun _ _ _ h => h) (Or.inl ⟨by rfl, fun w hw => by go_simp⟩) hS7 ?_
  simp only [Act.put, List.getElem_toArray, List.getElem_cons_succ, List.getElem_cons_zero, List.setIfInBounds_toArray, List.set_cons_zero, List.set_cons_succ]
  by_cases hle : n ≤ q.dt.length
  · have hkk : k = n := by omega
    have hcmp : decide ((n : Int) ≤ (q.dt.length : Int)) = true := decide_eq_true (by omega)
    have hcmp2 : decide ((q.dt.length : Int) < (n : Int)) = false := decide_eq_false (by omega)
    have hcmp3 : ((n : Int) ≤ (q.dt.length : Int)) = True := by simp; omega
    refine L_take (i := 11) (v := .int .i64 (n : Int)) rfl rfl (by kernel_rfl) (by kernel_rfl) (by kernel_rfl) (by kernel_rfl) (fun _ _ _ h => h) (Or.inl ⟨by rfl, fun w hw => by go_simp <;> omega⟩) hS7 ?_
    simp only [Act.put, List.getElem_toArray, List.getElem_cons_succ, List.getElem_cons_zero, List.setIfInBounds_toArray, List.set_cons_zero, List.set_cons_succ]
    rw [hkk] at hsl
    refine L_one (j := 12) (by kernel_rfl) rfl (by rfl) ?_
    simp only [Act.put, List.getElem_toArray, List.getElem_cons_succ, List.getElem_cons_zero, List.setIfInBounds_toArray, List.set_cons_zero, List.set_cons_succ]
    refine wp_ran (v := .slice q.D n q.cd) (w' := w1.drew) (by go_simp) ⟨hS7, ?_⟩
    simp only [Act.put, List.getElem_toArray, List.getElem_cons_succ, List.getElem_cons_zero, List.setIfInBounds_toArray, List.set_cons_zero, List.set_cons_succ]
    refine L_one (j := 13) (by kernel_rfl) rfl (by rfl) ?_
    simp only [Act.put, List.getElem_toArray, List.getElem_cons_succ, List.getElem_cons_zero, List.setIfInBounds_toArray, List.set_cons_zero, List.set_cons_succ]
    refine wp_ran (v := .pointer (some ⟨g, 0, none⟩)) (w' := w1.drew) (by kernel_rfl) ⟨hS7, ?_⟩
    simp only [Act.put, List.getElem_toArray, List.getElem_cons_succ, List.getElem_cons_zero, List.setIfInBounds_toArray, List.set_cons_zero, List.set_cons_succ]
    refine L_one (j := 14) (by kernel_rfl) rfl (by rfl) ?_
    simp only [Act.put, List.getElem_toArray, List.getElem_cons_succ, List.getElem_cons_zero, List.setIfInBounds_toArray, List.set_cons_zero, List.set_cons_succ]
    refine wp_ran (v := .pointer (some ⟨g, 1, none⟩)) (w' := w1.drew) (by go_simp) ⟨hS7, ?_⟩
    simp only [Act.put, List.getElem_toArray, List.getElem_cons_succ, List.getElem_cons_zero, List.setIfInBounds_toArray, List.set_cons_zero, List.set_cons_succ]
    refine L_last (by kernel_rfl) rfl (by rfl) (by kernel_rfl) ?_
    simp only [Act.put, List.getElem_toArray, List.getElem_cons_succ, List.getElem_cons_zero, List.setIfInBounds_toArray, List.set_cons_zero, List.set_cons_succ]
    refine wp_setq 22 (.tmp 17) (.tmp 15) rfl g 1 36 _ (.slice q.D n q.cd) rfl rfl hS7.1 (by simp) (by kernel_rfl) rfl ?_
    intro w4 K4 ho4 hs4
    refine NoPanic.normal ?_
    simp only [Act.put, List.getElem_toArray, List.getElem_cons_succ, List.getElem_cons_zero, List.setIfInBounds_toArray, List.set_cons_zero, List.set_cons_succ]
    have HFIN : Hid (DoesTo w1 g w.heap.size q (some (q.v.dt.take n)) (.returned (.tuple #[])) w4) := Lib.hid (by
      have e1 : (q.dt.take n).length = n := by simp; omega
      have hown := own_take HN.out.dt (n := n) (by omega)
      have e2 : q.dt.take n = q.dt.take n := by rfl
      rw [e2] at hown
      have ho5 : Only (g :: rowOf (.slice q.D 0 0)) w1 w4 := (show Only [g] w1 w4 from ⟨ho4.os, ho4.tape, ho4.output, ho4.size, ho4.block⟩).mono (fun k hk => by simp at hk; simp [hk])
      refine DoesTo.of (D' := q.D) (bs := q.dt.take n) (c' := q.cd) (th := true) HN.out HS.out HK.out ho5 ?_ (fun b hb => HN.out.ok b (List.mem_of_mem_take hb)) (fun k hk => .inl hk) (by rw [e1]; omega) ?_ rfl (fun h => (by cases h))
      · rw [e1]
        exact row_of hown fun k hk => ho4.block k (row_under hown k hk) (fun hm => by simp at hm; subst hm; obtain ⟨cs, hb⟩ := own_ty hown hk; exact hb.ne_ HK.out (by decide) rfl)
      · rw [e1]
        have h7 := HTH.out
        rw [h7] at K4
        simpa using K4)
    clear K4 ho4 hs4 hS7 hsl HC
    go_wp2
    refine bodyPost_end (results_none rfl _ _ _) rfl ?_
    exact HFIN.out
  · have hkk : k = q.dt.length := by omega
    have hcmp : decide ((n : Int) ≤ (q.dt.length : Int)) = false := decide_eq_false (by omega)
    have hcmp2 : decide ((q.dt.length : Int) < (n : Int)) = true := decide_eq_true (by omega)
    have hcmp3 : ((n : Int) ≤ (q.dt.length : Int)) = False := by simp; omega
    refine L_take (i := 11) (v := .int .i64 (q.dt.length : Int)) rfl rfl (by kernel_rfl) (by kernel_rfl) (by kernel_rfl) (by kernel_rfl) (fun _ _ _ h => h) (Or.inl ⟨by rfl, fun w hw => by go_simp <;> omega⟩) hS7 ?_
    simp only [Act.put, List.getElem_toArray, List.getElem_cons_succ, List.getElem_cons_zero, List.setIfInBounds_toArray, List.set_cons_zero, List.set_cons_succ]
    rw [hkk] at hsl
    refine L_one (j := 12) (by kernel_rfl) rfl (by rfl) ?_
    simp only [Act.put, List.getElem_toArray, List.getElem_cons_succ, List.getElem_cons_zero, List.setIfInBounds_toArray, List.set_cons_zero, List.set_cons_succ]
    refine wp_ran (v := .slice q.D q.dt.length q.cd) (w' := w1.drew) (by go_simp) ⟨hS7, ?_⟩
    simp only [Act.put, List.getElem_toArray, List.getElem_cons_succ, List.getElem_cons_zero, List.setIfInBounds_toArray, List.set_cons_zero, List.set_cons_succ]
    refine L_one (j := 13) (by kernel_rfl) rfl (by rfl) ?_
    simp only [Act.put, List.getElem_toArray, List.getElem_cons_succ, List.getElem_cons_zero, List.setIfInBounds_toArray, List.set_cons_zero, List.set_cons_succ]
    refine wp_ran (v := .pointer (some ⟨g, 0, none⟩)) (w' := w1.drew) (by kernel_rfl) ⟨hS7, ?_⟩
    simp only [Act.put, List.getElem_toArray, List.getElem_cons_succ, List.getElem_cons_zero, List.setIfInBounds_toArray, List.set_cons_zero, List.set_cons_succ]
    refine L_one (j := 14) (by kernel_rfl) rfl (by rfl) ?_
    simp only [Act.put, List.getElem_toArray, List.getElem_cons_succ, List.getElem_cons_zero, List.setIfInBounds_toArray, List.set_cons_zero, List.set_cons_succ]
    refine wp_ran (v := .pointer (some ⟨g, 1, none⟩)) (w' := w1.drew) (by go_simp) ⟨hS7, ?_⟩
    simp only [Act.put, List.getElem_toArray, List.getElem_cons_succ, List.getElem_cons_zero, List.setIfInBounds_toArray, List.set_cons_zero, List.set_cons_succ]
    refine L_last (by kernel_rfl) rfl (by rfl) (by kernel_rfl) ?_
    simp only [Act.put, List.getElem_toArray, List.getElem_cons_succ, List.getElem_cons_zero, List.setIfInBounds_toArray, List.set_cons_zero, List.set_cons_succ]
    refine wp_setq 22 (.tmp 17) (.tmp 15) rfl g 1 36 _ (.slice q.D q.dt.length q.cd) rfl rfl hS7.1 (by simp) (by kernel_rfl) rfl ?_
    intro w4 K4 ho4 hs4
    refine NoPanic.normal ?_
    simp only [Act.put, List.getElem_toArray, List.getElem_cons_succ, List.getElem_cons_zero, List.setIfInBounds_toArray, List.set_cons_zero, List.set_cons_succ]
    have HFIN : Hid (DoesTo w1 g w.heap.size q (some (q.v.dt.take n)) (.returned (.tuple #[])) w4) := Lib.hid (by
      have e1 : (q.dt.take n).length = q.dt.length := by simp; omega
      have hown := own_take HN.out.dt (n := q.dt.length) (by omega)
      have e2 : q.dt.take q.dt.length = q.dt.take n := by rw [List.take_of_length_le (Nat.le_refl _), List.take_of_length_le (by omega)]
      rw [e2] at hown
      have ho5 : Only (g :: rowOf (.slice q.D 0 0)) w1 w4 := (show Only [g] w1 w4 from ⟨ho4.os, ho4.tape, ho4.output, ho4.size, ho4.block⟩).mono (fun k hk => by simp at hk; simp [hk])
      refine DoesTo.of (D' := q.D) (bs := q.dt.take n) (c' := q.cd) (th := true) HN.out HS.out HK.out ho5 ?_ (fun b hb => HN.out.ok b (List.mem_of_mem_take hb)) (fun k hk => .inl hk) (by rw [e1]; omega) ?_ rfl (fun h => (by cases h))
      · rw [e1]
        exact row_of hown fun k hk => ho4.block k (row_under hown k hk) (fun hm => by simp at hm; subst hm; obtain ⟨cs, hb⟩ := own_ty hown hk; exact hb.ne_ HK.out (by decide) rfl)
      · rw [e1]
        have h7 := HTH.out
        rw [h7] at K4
        simpa using K4)
    clear K4 ho4 hs4 hS7 hsl HC
    go_wp2
    refine bodyPost_end (results_none rfl _ _ _) rfl ?_
    exact HFIN.out
end Go.Proofs.Ytcbpdalfindmgaa

/-
  What may be done with an object's head, and what is done: Zero, Back. Conditions: the object lies where it is said to.
-/
namespace Go.Proofs.Ytcbpdalfindmgaa
open Go.RowKit Go.BigFrame
set_option linter.unusedSimpArgs false
set_option linter.unusedVariables false
set_option maxRecDepth 100000
theorem wp_loadq {P : Program} {o : Oper} {a : Act} {w : World} {K : Act → World → Prop} {Q : Exit → Act → World → Prop} (ty : TypeId) (x : Operand) (ho : o.op = .load ty x)
    (g : Nat) (cs : List Value) (d : TypeDesc) (hx : a.eval x = .pointer (some ⟨g, 0, none⟩)) (hB : Blk w g ty cs.toArray) (hu : P.underlying ty = some d) (hd : d.isRow = true) (hi : (P.info? ty).map (·.size) = some cs.length)
    (h : K (a.put o.dst (.agg cs.toArray)) w) : o.wp P a w K Q := by
  unfold Oper.wp execOp
  simp only [ho, hx, Instr.loadAt, Instr.sureAddr, Sem.run_bind, Sem.run_pure, Result.andThen_ok, run_loadVar_mid w g 0 ty cs d hB.range hu hd hi]
  exact h
theorem run_head_anyq (A : Option Addr) (m c n : Nat) (h : n ≤ c) (w : World) : (Instr.slice 22 (.slice A m c) none (some (.int .i64 (n : Int))) none).run Try.prog w = .ok (.slice (if c = 0 then A else A.map (·.add 0)) n c) w := by
  have hsz : ∀ w, (sizeOf (Try.prog.elem 22)).run Try.prog w = .ok 1 w := fun w => by kernel_rfl
  rw [run_slice_h w 22 A m c (by kernel_rfl) .i64 (n : Int) (by omega) (by omega), hsz]
  simp [Result.andThen, sliced]
/-- a part of a row of bytes is cleared -/
theorem clear_part {w : World} {base m c a0 k : Nat} {D : Option Addr} {R : List Nat} (h : Own w base (.slice D m c) m R) (hk : a0 + k ≤ m) : ∃ A1 A2 w', (Instr.slice 22 (.slice D m c) (some (.int .i64 (a0 : Int))) none none).run Try.prog w = .ok (.slice A1 (m - a0) (c - a0)) w ∧
    (Instr.slice 22 (.slice A1 (m - a0) (c - a0)) none (some (.int .i64 (k : Int))) none).run Try.prog w = .ok (.slice A2 k (c - a0)) w ∧
    (∀ ty, (Builtin.clear_ #[22] ty #[.slice A2 k (c - a0)]).run Try.prog w = .ok (.tuple #[]) w') ∧ Own w' base (.slice D m c) m (R.take a0 ++ List.replicate k 0 ++ R.drop (a0 + k)) ∧ Only (rowOf (.slice D 0 0)) w w' := by
  obtain ⟨-, hl, hmc, hD⟩ := own_len h
  have h1 := run_cut_bytes D m c a0 (by omega) w
  have h2 := run_head_anyq (if c = a0 then D else D.map (·.add (a0 * 1))) (m - a0) (c - a0) k (by omega) w
  rcases Nat.eq_zero_or_pos k with hk0 | hk0
  · subst hk0
    refine ⟨_, _, w, h1, h2, fun ty => ?_, ?_, Only.refl _ _⟩
    · generalize (if c - a0 = 0 then (if c = a0 then D else D.map (·.add (a0 * 1))) else (if c = a0 then D else D.map (·.add (a0 * 1))).map (·.add 0)) = A2
      cases A2 <;> simp [Builtin.clear_, run_underlying Try.underlying22]
    · have : R.take a0 ++ List.replicate 0 0 ++ R.drop (a0 + 0) = R := by simp
      rw [this]
      exact h
  · obtain ⟨b, rfl⟩ : ∃ b, D = some ⟨b, 0, none⟩ := by
      rcases hD with rfl | hb
      · rcases h.2 with ⟨_, e0⟩ | ⟨_, _, _, e, _⟩
        · omega
        · cases e
      · exact hb
    obtain ⟨w', h3, h4, h5⟩ := clear_own (at_ := a0) (k := k) h (by omega) hk0
    have e1 : (if c = a0 then some (⟨b, 0, none⟩ : Addr) else (some (⟨b, 0, none⟩ : Addr)).map (·.add (a0 * 1))) = some ⟨b, a0, none⟩ := by
      rw [if_neg (by omega), Option.map_some, Nat.mul_one, add_zero_off]
    rw [e1] at h1 h2
    have e2 : (if c - a0 = 0 then some (⟨b, a0, none⟩ : Addr) else (some (⟨b, a0, none⟩ : Addr)).map (·.add 0)) = some ⟨b, a0, none⟩ := by
      rw [if_neg (by omega)]; simp [Addr.add]
    rw [e2] at h2
    exact ⟨_, _, w', h1, h2, fun ty => h3 ty _, h4, h5.mono (fun k hk => by simp at hk; subst hk; simp [rowOf, Value.ownBlock])⟩
def zeroD (d : List Nat) (a n : Nat) : List Nat := d.take (min a d.length) ++ List.replicate (min n (d.length - min a d.length)) 0 ++ d.drop (min a d.length + min n (d.length - min a d.length))
theorem zeroD_len (d : List Nat) (a n : Nat) : (zeroD d a n).length = d.length := by simp [zeroD]; omega
def zeroK (o : OV) (a n : Int) : Nat := if ¬ (0 ≤ a ∧ 0 ≤ n) then 1 else if o.th = false then 6 else 0
theorem zeroMay {w : World} {po pa pn : Nat} (o : OA) (a n : Int) (K : Blk w po 36 o.cs) (Ka : Blk w pa 3 #[.int .i64 a]) (Kn : Blk w pn 3 #[.int .i64 n]) : MayC w 76 #[.pointer (some ⟨po, 0, none⟩), .pointer (some ⟨pa, 0, none⟩), .pointer (some ⟨pn, 0, none⟩)] (zeroK o.v a n) := fun w1 hb => by
  have K1 := K.of (hb.block _ K.lt)
  have ca : w1.cell? ⟨pa, 0, none⟩ = some (.int .i64 a) := (Ka.of (hb.block _ Ka.lt)).cell 0
  have cn : w1.cell? ⟨pn, 0, none⟩ = some (.int .i64 n) := (Kn.of (hb.block _ Kn.lt)).cell 0
  have HT := Lib.hid (fun b => changes_any (b := b) K1)
  clear K Ka Kn hb K1
  have hv : o.v.th = o.th := rfl
  by_cases h0 : 0 ≤ a
  · have d0 : decide (0 ≤ a) = true := decide_eq_true h0
    by_cases h1 : 0 ≤ n
    · have d1 : decide (0 ≤ n) = true := decide_eq_true h1
      have HK : Hid (zeroK o.v a n = if o.th = false then 6 else 0) := Lib.hid (by unfold zeroK; rw [if_neg (by omega), hv])
      have HT2 := Lib.hid (HT.out true)
      clear h0 h1 HT hv
      go_enter Try.func76, Try.ntmps76
      go_wp2_with fail
      refine HT2.out.mono ?_
      rintro e w' ⟨rfl, rfl⟩
      obtain ⟨kk, hkk⟩ : ∃ kk : Nat, kk = (if true = false then 1 else if o.th = false then 6 else 0) := ⟨_, rfl⟩
      rw [← hkk]
      have HKK := Lib.hid hkk
      clear hkk
      generalize hev : errV kk = ev
      have HEV := Lib.hid hev
      clear hev
      go_wp2
      go_ret
      rw [← HEV.out, HKK.out, HK.out]
      exact ⟨rfl, Below.refl _ _⟩
    · have d1 : decide (0 ≤ n) = false := decide_eq_false h1
      have HK : Hid (zeroK o.v a n = 1) := Lib.hid (by unfold zeroK; rw [if_pos (by omega)])
      have HT2 := Lib.hid (HT.out false)
      clear h0 h1 HT hv
      go_enter Try.func76, Try.ntmps76
      go_wp2_with fail
      refine HT2.out.mono ?_
      rintro e w' ⟨rfl, rfl⟩
      go_wp2
      go_ret
      rw [HK.out]
      exact ⟨rfl, Below.refl _ _⟩
  · have d0 : decide (0 ≤ a) = false := decide_eq_false h0
    have HK : Hid (zeroK o.v a n = 1) := Lib.hid (by unfold zeroK; rw [if_pos (by omega)])
    have HT2 := Lib.hid (HT.out false)
    clear h0 HT hv
    go_enter Try.func76, Try.ntmps76
    go_wp2_with fail
    refine HT2.out.mono ?_
    rintro e w' ⟨rfl, rfl⟩
    go_wp2
    go_ret
    rw [HK.out]
    exact ⟨rfl, Below.refl _ _⟩
set_option maxHeartbeats 4000000 in
theorem zeroDoes {w : World} {pa pn : Nat} (q0 : OV) (a n : Nat) (hth : q0.th = true) (Ka : Blk w pa 3 #[.int .i64 (a : Int)]) (Kn : Blk w pn 3 #[.int .i64 (n : Int)]) : DoesC w 78 #[.pointer (some ⟨pa, 0, none⟩), .pointer (some ⟨pn, 0, none⟩)] q0 (some (zeroD q0.dt a n)) := fun w1 g q hb hg K hN hS hv => by
  subst hv
  have Ka1 := Ka.of (hb.block _ Ka.lt)
  have Kn1 := Kn.of (hb.block _ Kn.lt)
  have hthq : q.th = true := hth
  have HK := Lib.hid K
  have HN := Lib.hid hN
  have HS := Lib.hid hS
  have HTH := Lib.hid hthq
  obtain ⟨a0, ha0⟩ : ∃ a0, a0 = min a q.dt.length := ⟨_, rfl⟩
  obtain ⟨k, hk⟩ : ∃ k, k = min n (q.dt.length - a0) := ⟨_, rfl⟩
  obtain ⟨A1, A2, w5, hsl1, hsl2, hclr, hown5, ho5⟩ := clear_part (w := w1.drew) (a0 := a0) (k := k) hN.dt (by omega)
  have HF := Lib.hid (And.intro hown5 ho5)
  have hC : ∀ w' : World, (Blk w' g 36 #[.bool q.th, .slice q.D q.dt.length q.cd, .int .i64 q.sq, .slice q.C q.cl.length q.cc] ∧ Blk w' pa 3 #[.int .i64 (a : Int)]) → w'.cell? ⟨g, 1, none⟩ = some (.slice q.D q.dt.length q.cd) ∧ w'.cell? ⟨pa, 0, none⟩ = some (.int .i64 (a : Int)) := fun w' h => ⟨h.1.cell 1, h.2.cell 0⟩
  have HC := Lib.hid hC
  have hS7 : Blk w1.drew g 36 #[.bool q.th, .slice q.D q.dt.length q.cd, .int .i64 q.sq, .slice q.C q.cl.length q.cc] ∧ Blk w1.drew pa 3 #[.int .i64 (a : Int)] := ⟨K.drew, Ka1.drew⟩
  have cn : w1.drew.cell? ⟨pn, 0, none⟩ = some (.int .i64 (n : Int)) := Kn1.drew.cell 0
  obtain ⟨-, hl, hmc, hD⟩ := own_len hN.dt
  have hfin : DoesTo w1 g w.heap.size q (some (zeroD q.v.dt a n)) (.returned (.tuple #[])) w5 := by
    have e0 : q.dt.take a0 ++ List.replicate k 0 ++ q.dt.drop (a0 + k) = zeroD q.dt a n := by rw [hk, ha0]; rfl
    have ho6 : Only (rowOf (.slice q.D 0 0)) w1 w5 := ⟨ho5.os, ho5.tape, ho5.output, ho5.size, ho5.block⟩
    rw [e0] at hown5
    have hl5 := zeroD_len q.dt a n
    refine DoesTo.of (D' := q.D) (bs := zeroD q.dt a n) (c' := q.cd) (th := true) hN hS K (ho6.mono (fun k hk => by simp [hk])) (by rw [hl5]; exact hown5) (fun b hb => ?_) (fun k hk => .inl hk) (by rw [hl5]; exact hS.dt) ?_ rfl (fun h => (by cases h))
    · unfold zeroD at hb
      rcases List.mem_append.1 hb with hb | hb
      · rcases List.mem_append.1 hb with hb | hb
        · exact hN.ok b (List.mem_of_mem_take hb)
        · have := (List.mem_replicate.1 hb).2; omega
      · exact hN.ok b (List.mem_of_mem_drop hb)
    · rw [hl5]
      have K5 := K.of (ho6.block g K.lt (fun hm => by obtain ⟨_, _, cs, hb⟩ := OA.P.dU hN g hm; exact hb.ne_ K (by decide) rfl))
      unfold OA.cs at K5
      rw [hthq] at K5
      exact K5
  have HFIN := Lib.hid hfin
  have hsd := hS.dt
  clear K hN hS hth hthq hb Ka Kn Ka1 Kn1 hD hC hown5 ho5 hfin hl
  show Calls Try.prog 78 #[.pointer (some ⟨g, 0, none⟩), .pointer (some ⟨pa, 0, none⟩), .pointer (some ⟨pn, 0, none⟩)] w1 _
  go_enter Try.func78, Try.ntmps78
  go_upto_region 0 with (fail)
  refine any_beginL (fun w' => Blk w' g 36 #[.bool q.th, .slice q.D q.dt.length q.cd, .int .i64 q.sq, .slice q.C q.cl.length q.cc] ∧ Blk w' pa 3 #[.int .i64 (a : Int)]) 12 (by kernel_rfl) ?_
  refine L_take (i := 0) (v := .pointer (some ⟨g, 0, none⟩)) rfl rfl (by kernel_rfl) (by kernel_rfl) (by kernel_rfl) (by kernel_rfl) (fun _ _ _ h => h) (Or.inl ⟨by rfl, fun w hw => by kernel_rfl⟩) hS7 ?_
  simp only [Act.put, List.getElem_toArray, List.getElem_cons_succ, List.getElem_cons_zero, List.setIfInBounds_toArray, List.set_cons_zero, List.set_cons_succ]
  refine L_take (i := 1) (v := .pointer (some ⟨g, 0, none⟩)) rfl rfl (by kernel_rfl) (by kernel_rfl) (by kernel_rfl) (by kernel_rfl) (fun _ _ _ h => h) (Or.inl ⟨by rfl, fun w hw => by kernel_rfl⟩) hS7 ?_
  simp only [Act.put, List.getElem_toArray, List.getElem_cons_succ, List.getElem_cons_zero, List.setIfInBounds_toArray, List.set_cons_zero, List.set_cons_succ]
  refine L_take (i := 2) (v := .pointer (some ⟨g, 1, none⟩)) rfl rfl (by kernel_rfl) (by kernel_rfl) (by kernel_rfl) (by kernel_rfl) (fun _ _ _ h => h) (Or.inl ⟨by rfl, fun w hw => by go_simp⟩) hS7 ?_
  simp only [Act.put, List.getElem_toArray, List.getElem_cons_succ, List.getElem_cons_zero, List.setIfInBounds_toArray, List.set_cons_zero, List.set_cons_succ]
  refine L_take (i := 3) (v := .slice q.D q.dt.length q.cd) rfl rfl (by kernel_rfl) (by kernel_rfl) (by kernel_rfl) (by kernel_rfl) (fun _ _ _ h => h) (Or.inl ⟨by rfl, fun w hw => by have q1 := (HC.out w hw).1; go_simp⟩) hS7 ?_
  simp only [Act.put, List.getElem_toArray, List.getElem_cons_succ, List.getElem_cons_zero, List.setIfInBounds_toArray, List.set_cons_zero, List.set_cons_succ]
  refine L_take (i := 4) (v := .int .i64 (a : Int)) rfl rfl (by kernel_rfl) (by kernel_rfl) (by kernel_rfl) (by kernel_rfl) (fun _ _ _ h => h) (Or.inl ⟨by rfl, fun w hw => by have q1 := (HC.out w hw).2; go_simp⟩) hS7 ?_
  simp only [Act.put, List.getElem_toArray, List.getElem_cons_succ, List.getElem_cons_zero, List.setIfInBounds_toArray, List.set_cons_zero, List.set_cons_succ]
  refine L_take (i := 5) (v := .pointer (some ⟨g, 0, none⟩)) rfl rfl (by kernel_rfl) (by kernel_rfl) (by kernel_rfl) (by kernel_rfl) (fun _ _ _ h => h) (Or.inl ⟨by rfl, fun w hw => by kernel_rfl⟩) hS7 ?_
  simp only [Act.put, List.getElem_toArray, List.getElem_cons_succ, List.getElem_cons_zero, List.setIfInBounds_toArray, List.set_cons_zero, List.set_cons_succ]
  refine L_take (i := 6) (v := .pointer (some ⟨g, 0, none⟩)) rfl rfl (by kernel_rfl) (by kernel_rfl) (by kernel_rfl) (by kernel_rfl) (fun _ _ _ h => h) (Or.inl ⟨by rfl, fun w hw => by kernel_rfl⟩) hS7 ?_
  simp only [Act.put, List.getElem_toArray, List.getElem_cons_succ, List.getElem_cons_zero, List.setIfInBounds_toArray, List.set_cons_zero, List.set_cons_succ]
  refine L_take (i := 7) (v := .pointer (some ⟨g, 1, none⟩)) rfl rfl (by kernel_rfl) (by kernel_rfl) (by kernel_rfl) (by kernel_rfl) (fun _ _ _ h => h) (Or.inl ⟨by rfl, fun w hw => by go_simp⟩) hS7 ?_
  simp only [Act.put, List.getElem_toArray, List.getElem_cons_succ, List.getElem_cons_zero, List.setIfInBounds_toArray, List.set_cons_zero, List.set_cons_succ]
  refine L_take (i := 8) (v := .slice q.D q.dt.length q.cd) rfl rfl (by kernel_rfl) (by kernel_rfl) (by kernel_rfl) (by kernel_rfl) (fun _ _ _ h => h) (Or.inl ⟨by rfl, fun w hw => by have q1 := (HC.out w hw).1; go_simp⟩) hS7 ?_
  simp only [Act.put, List.getElem_toArray, List.getElem_cons_succ, List.getElem_cons_zero, List.setIfInBounds_toArray, List.set_cons_zero, List.set_cons_succ]
  refine L_take (i := 9) (v := .int .i64 (q.dt.length : Int)) rfl rfl (by kernel_rfl) (by kernel_rfl) (by kernel_rfl) (by kernel_rfl) (fun _ _ _ h => h) (Or.inl ⟨by rfl, fun w hw => by go_simp⟩) hS7 ?_
  simp only [Act.put, List.getElem_toArray, List.getElem_cons_succ, List.getElem_cons_zero, List.setIfInBounds_toArray, List.set_cons_zero, List.set_cons_succ]
  have HKE := Lib.hid hk
  clear hk
  by_cases hle : a ≤ q.dt.length
  · have hkk : a0 = a := by omega
    have hcmp : decide ((a : Int) ≤ (q.dt.length : Int)) = true := decide_eq_true (by omega)
    have hcmp2 : decide ((q.dt.length : Int) < (a : Int)) = false := decide_eq_false (by omega)
    have hcmp3 : ((a : Int) ≤ (q.dt.length : Int)) = True := by simp; omega
    refine L_take (i := 10) (v := .int .i64 (a0 : Int)) rfl rfl (by kernel_rfl) (by kernel_rfl) (by kernel_rfl) (by kernel_rfl) (fun _ _ _ h => h) (Or.inl ⟨by rfl, fun w hw => by rw [hkk]; go_simp <;> omega⟩) hS7 ?_
    simp only [Act.put, List.getElem_toArray, List.getElem_cons_succ, List.getElem_cons_zero, List.setIfInBounds_toArray, List.set_cons_zero, List.set_cons_succ]
    clear hkk hcmp hcmp2 hcmp3 hle ha0
    refine L_one (j := 11) (by kernel_rfl) rfl (by rfl) ?_
    simp only [Act.put, List.getElem_toArray, List.getElem_cons_succ, List.getElem_cons_zero, List.setIfInBounds_toArray, List.set_cons_zero, List.set_cons_succ]
    refine wp_ran (v := .slice A1 (q.dt.length - a0) (q.cd - a0)) (w' := w1.drew) (by go_simp) ⟨hS7, ?_⟩
    simp only [Act.put, List.getElem_toArray, List.getElem_cons_succ, List.getElem_cons_zero, List.setIfInBounds_toArray, List.set_cons_zero, List.set_cons_succ]
    refine L_last (by kernel_rfl) rfl (by rfl) (by kernel_rfl) ?_
    simp only [Act.put, List.getElem_toArray, List.getElem_cons_succ, List.getElem_cons_zero, List.setIfInBounds_toArray, List.set_cons_zero, List.set_cons_succ]
    refine wp_ran (v := .slice A1 (q.dt.length - a0) (q.cd - a0)) (w' := w1.drew) (by kernel_rfl) ?_
    refine NoPanic.normal ?_
    simp only [Act.put, List.getElem_toArray, List.getElem_cons_succ, List.getElem_cons_zero, List.setIfInBounds_toArray, List.set_cons_zero, List.set_cons_succ]
    obtain ⟨mm, hmm⟩ : ∃ mm, mm = q.dt.length - a0 := ⟨_, rfl⟩
    have hkm := HKE.out
    rw [← hmm] at hsl1 hsl2 hkm ⊢
    clear hsl1 hS7 HC hmm
    generalize w1.drew = wd at *
    by_cases hle2 : n ≤ mm
    · have hkk : k = n := by omega
      subst hkk
      have hcmp : decide ((k : Int) ≤ (mm : Int)) = true := decide_eq_true (by omega)
      have hcmp2 : decide ((mm : Int) < (k : Int)) = false := decide_eq_false (by omega)
      clear hkm HKE
      go_wp2
      refine bodyPost_end (results_none rfl _ _ _) rfl ?_
      exact HFIN.out
    · have hkk : k = mm := by omega
      subst hkk
      have hcmp : decide ((n : Int) ≤ (k : Int)) = false := decide_eq_false (by omega)
      have hcmp2 : decide ((k : Int) < (n : Int)) = true := decide_eq_true (by omega)
      clear hkm HKE
      go_wp2
      refine bodyPost_end (results_none rfl _ _ _) rfl ?_
      exact HFIN.out
  · have hkk : a0 = q.dt.length := by omega
    have hcmp : decide ((a : Int) ≤ (q.dt.length : Int)) = false := decide_eq_false (by omega)
    have hcmp2 : decide ((q.dt.length : Int) < (a : Int)) = true := decide_eq_true (by omega)
    have hcmp3 : ((a : Int) ≤ (q.dt.length : Int)) = False := by simp; omega
    refine L_take (i := 10) (v := .int .i64 (a0 : Int)) rfl rfl (by kernel_rfl) (by kernel_rfl) (by kernel_rfl) (by kernel_rfl) (fun _ _ _ h => h) (Or.inl ⟨by rfl, fun w hw => by rw [hkk]; go_simp <;> omega⟩) hS7 ?_
    simp only [Act.put, List.getElem_toArray, List.getElem_cons_succ, List.getElem_cons_zero, List.setIfInBounds_toArray, List.set_cons_zero, List.set_cons_succ]
    clear hkk hcmp hcmp2 hcmp3 hle ha0
    refine L_one (j := 11) (by kernel_rfl) rfl (by rfl) ?_
    simp only [Act.put, List.getElem_toArray, List.getElem_cons_succ, List.getElem_cons_zero, List.setIfInBounds_toArray, List.set_cons_zero, List.set_cons_succ]
    refine wp_ran (v := .slice A1 (q.dt.length - a0) (q.cd - a0)) (w' := w1.drew) (by go_simp) ⟨hS7, ?_⟩
    simp only [Act.put, List.getElem_toArray, List.getElem_cons_succ, List.getElem_cons_zero, List.setIfInBounds_toArray, List.set_cons_zero, List.set_cons_succ]
    refine L_last (by kernel_rfl) rfl (by rfl) (by kernel_rfl) ?_
    simp only [Act.put, List.getElem_toArray, List.getElem_cons_succ, List.getElem_cons_zero, List.setIfInBounds_toArray, List.set_cons_zero, List.set_cons_succ]
    refine wp_ran (v := .slice A1 (q.dt.length - a0) (q.cd - a0)) (w' := w1.drew) (by kernel_rfl) ?_
    refine NoPanic.normal ?_
    simp only [Act.put, List.getElem_toArray, List.getElem_cons_succ, List.getElem_cons_zero, List.setIfInBounds_toArray, List.set_cons_zero, List.set_cons_succ]
    obtain ⟨mm, hmm⟩ : ∃ mm, mm = q.dt.length - a0 := ⟨_, rfl⟩
    have hkm := HKE.out
    rw [← hmm] at hsl1 hsl2 hkm ⊢
    clear hsl1 hS7 HC hmm
    generalize w1.drew = wd at *
    by_cases hle2 : n ≤ mm
    · have hkk : k = n := by omega
      subst hkk
      have hcmp : decide ((k : Int) ≤ (mm : Int)) = true := decide_eq_true (by omega)
      have hcmp2 : decide ((mm : Int) < (k : Int)) = false := decide_eq_false (by omega)
      clear hkm HKE
      go_wp2
      refine bodyPost_end (results_none rfl _ _ _) rfl ?_
      exact HFIN.out
    · have hkk : k = mm := by omega
      subst hkk
      have hcmp : decide ((n : Int) ≤ (k : Int)) = false := decide_eq_false (by omega)
      have hcmp2 : decide ((k : Int) < (n : Int)) = true := decide_eq_true (by omega)
      clear hkm HKE
      go_wp2
      refine bodyPost_end (results_none rfl _ _ _) rfl ?_
      exact HFIN.out
/-! ### Back -/
def backK (c : CxV) (s : Int) : Nat := if c.sn.contains s = true then 0 else 1
theorem backMay {w : World} {pc ps : Nat} (c : XA) (s : Int) (hc : c.R w) (K : Blk w pc 28 c.cells) (Ks : Blk w ps 3 #[.int .i64 s]) : MayC w 63 #[.pointer (some ⟨pc, 0, none⟩), .pointer (some ⟨ps, 0, none⟩)] (backK c.v s) := fun w1 hb => by
  have c1 : w1.cell? ⟨pc, 1, none⟩ = some (.slice c.S c.sn.length c.cs) := (K.of (hb.block _ K.lt)).cell 1
  have cs : w1.cell? ⟨ps, 0, none⟩ = some (.int .i64 s) := (Ks.of (hb.block _ Ks.lt)).cell 0
  have HCT := Lib.hid (contains_any (c := c.cs) s (hc.since hb).sn hc.s1)
  have HB : Hid (backK c.v s = if c.sn.contains s = true then 0 else 1) := Lib.hid rfl
  clear K Ks hb hc
  go_enter Try.func63, Try.ntmps63
  go_wp2_with fail
  refine HCT.out.mono ?_
  rintro e w' ⟨rfl, rfl⟩
  clear HCT
  generalize c.sn.contains s = bb at *
  cases bb with
  | true =>
    go_wp2
    go_ret
    rw [HB.out]
    exact ⟨rfl, Below.refl _ _⟩
  | false =>
    go_wp2
    go_ret
    rw [HB.out]
    exact ⟨rfl, Below.refl _ _⟩
set_option maxHeartbeats 4000000 in
theorem backDoes {w : World} {ps : Nat} (q0 : OV) (s : Int) (h0 : 0 ≤ s) (hG : Good q0) (Ks : Blk w ps 3 #[.int .i64 s]) : DoesC w 65 #[.pointer (some ⟨ps, 0, none⟩)] q0 (atO q0 s) := fun w1 g q hb hg K hN hS hv => by
  subst hv
  have Ks1 := Ks.of (hb.block _ Ks.lt)
  have HK := Lib.hid K
  have HN := Lib.hid hN
  have HS := Lib.hid hS
  have HAT := Lib.hid (sat_any q s hN.R.drew hS)
  have hS7 : Blk w1.drew ps 3 #[.int .i64 s] := Ks1.drew
  have hC : ∀ w' : World, Blk w' ps 3 #[.int .i64 s] → w'.cell? ⟨ps, 0, none⟩ = some (.int .i64 s) := fun w' h => h.cell 0
  have HC := Lib.hid hC
  have HKS := Lib.hid Ks1
  have hgs := K.ne_ Ks1 (by decide)
  have HGS := Lib.hid (And.intro h0 hG)
  clear hN hS hb Ks Ks1 hC h0 hG
  show Calls Try.prog 65 #[.pointer (some ⟨g, 0, none⟩), .pointer (some ⟨ps, 0, none⟩)] w1 _
  go_enter Try.func65, Try.ntmps65
  go_upto_region 0 with (fail)
  refine any_beginL (fun w' => Blk w' ps 3 #[.int .i64 s]) 15 (by kernel_rfl) ?_
  refine L_take (i := 0) (v := .pointer (some ⟨g, 0, none⟩)) rfl rfl (by kernel_rfl) (by kernel_rfl) (by kernel_rfl) (by kernel_rfl) (fun _ _ _ h => h) (Or.inl ⟨by rfl, fun w hw => by kernel_rfl⟩) hS7 ?_
  simp only [Act.put, List.getElem_toArray, List.getElem_cons_succ, List.getElem_cons_zero, List.setIfInBounds_toArray, List.set_cons_zero, List.set_cons_succ]
  refine L_take (i := 1) (v := .pointer (some ⟨g, 0, none⟩)) rfl rfl (by kernel_rfl) (by kernel_rfl) (by kernel_rfl) (by kernel_rfl) (fun _ _ _ h => h) (Or.inl ⟨by rfl, fun w hw => by kernel_rfl⟩) hS7 ?_
  simp only [Act.put, List.getElem_toArray, List.getElem_cons_succ, List.getElem_cons_zero, List.setIfInBounds_toArray, List.set_cons_zero, List.set_cons_succ]
  refine L_take (i := 2) (v := .pointer (some ⟨g, 0, none⟩)) rfl rfl (by kernel_rfl) (by kernel_rfl) (by kernel_rfl) (by kernel_rfl) (fun _ _ _ h => h) (Or.inl ⟨by rfl, fun w hw => by kernel_rfl⟩) hS7 ?_
  simp only [Act.put, List.getElem_toArray, List.getElem_cons_succ, List.getElem_cons_zero, List.setIfInBounds_toArray, List.set_cons_zero, List.set_cons_succ]
  refine L_take (i := 3) (v := .pointer (some ⟨g, 0, none⟩)) rfl rfl (by kernel_rfl) (by kernel_rfl) (by kernel_rfl) (by kernel_rfl) (fun _ _ _ h => h) (Or.inl ⟨by rfl, fun w hw => by kernel_rfl⟩) hS7 ?_
  simp only [Act.put, List.getElem_toArray, List.getElem_cons_succ, List.getElem_cons_zero, List.setIfInBounds_toArray, List.set_cons_zero, List.set_cons_succ]
  refine L_take (i := 5) (v := .int .i64 s) rfl rfl (by kernel_rfl) (by kernel_rfl) (by kernel_rfl) (by kernel_rfl) (fun _ _ _ h => h) (Or.inl ⟨by rfl, fun w hw => by have q1 := HC.out w hw; go_simp⟩) hS7 ?_
  simp only [Act.put, List.getElem_toArray, List.getElem_cons_succ, List.getElem_cons_zero, List.setIfInBounds_toArray, List.set_cons_zero, List.set_cons_succ]
  have K4 := HK.out.drew
  have HKd := Lib.hid K4
  refine L_one (j := 4) (by kernel_rfl) rfl (by rfl) ?_
  simp only [Act.put, List.getElem_toArray, List.getElem_cons_succ, List.getElem_cons_zero, List.setIfInBounds_toArray, List.set_cons_zero, List.set_cons_succ]
  refine wp_loadq 36 (.tmp 7) rfl g [.bool q.th, .slice q.D q.dt.length q.cd, .int .i64 q.sq, .slice q.C q.cl.length q.cc] _ rfl K4 Try.underlying36 rfl (by kernel_rfl) ?_
  refine ⟨hS7, ?_⟩
  simp only [Act.put, List.getElem_toArray, List.getElem_cons_succ, List.getElem_cons_zero, List.setIfInBounds_toArray, List.set_cons_zero, List.set_cons_succ]
  refine L_one (j := 6) (by kernel_rfl) rfl (by rfl) ?_
  simp only [Act.put, List.getElem_toArray, List.getElem_cons_succ, List.getElem_cons_zero, List.setIfInBounds_toArray, List.set_cons_zero, List.set_cons_succ]
  refine wp_called (by kernel_rfl) HAT.out ?_
  rintro e w2 ⟨hb2, hcase⟩
  have hb2' : Below w1.heap.size w1 w2 := below_drew' hb2
  obtain ⟨bs, v2, c2, D2, th, rfl, hv2, hok2, hat2, hlen2, hth2⟩ : ∃ (bs : List Nat) (v2 : Value) (c2 : Nat) (D2 : Option Addr) (th : Bool), e = .returned (.tuple #[.slice D2 bs.length c2, .bool th]) ∧ Own w2 w1.heap.size (.slice D2 bs.length c2) bs.length bs ∧ (∀ b ∈ bs, b < 256) ∧ atO q.v s = (if th = true then some bs else none) ∧ bs.length ≤ 10000 ∧ (th = false → bs = []) := by
    rcases hcase with ⟨d, v, h1, h2, h3, rfl, h5, h6⟩ | ⟨h1, rfl⟩
    · obtain ⟨D2, c2, rfl, -⟩ := h5.form
      exact ⟨d, .nilIface, c2, D2, true, rfl, h5, h6, h3, by have := atO_len h3 h1; omega, fun h => (by cases h)⟩
    · exact ⟨[], .nilIface, 0, none, false, rfl, Own.nil _ _, fun b hb => (by cases hb), h1 HGS.out.2 HGS.out.1, by simp, fun _ => rfl⟩
  have K2 := HK.out.of (hb2'.block _ HK.out.lt)
  have S2 : Blk w2 ps 3 #[.int .i64 s] := HKS.out.of (hb2'.block _ HKS.out.lt)
  refine ⟨_, rfl, S2, ?_⟩
  simp only [Act.put, List.getElem_toArray, List.getElem_cons_succ, List.getElem_cons_zero, List.setIfInBounds_toArray, List.set_cons_zero, List.set_cons_succ]
  refine L_one (j := 7) (by kernel_rfl) rfl (by rfl) ?_
  simp only [Act.put, List.getElem_toArray, List.getElem_cons_succ, List.getElem_cons_zero, List.setIfInBounds_toArray, List.set_cons_zero, List.set_cons_succ]
  refine wp_ran (v := .tuple #[.slice D2 bs.length c2, .bool th]) (w' := w2) (by kernel_rfl) ⟨S2, ?_⟩
  simp only [Act.put, List.getElem_toArray, List.getElem_cons_succ, List.getElem_cons_zero, List.setIfInBounds_toArray, List.set_cons_zero, List.set_cons_succ]
  refine L_take (i := 8) (v := .slice D2 bs.length c2) rfl rfl (by kernel_rfl) (by kernel_rfl) (by kernel_rfl) (by kernel_rfl) (fun _ _ _ h => h) (Or.inl ⟨by rfl, fun w hw => by kernel_rfl⟩) S2 ?_
  simp only [Act.put, List.getElem_toArray, List.getElem_cons_succ, List.getElem_cons_zero, List.setIfInBounds_toArray, List.set_cons_zero, List.set_cons_succ]
  refine L_take (i := 9) (v := .bool th) rfl rfl (by kernel_rfl) (by kernel_rfl) (by kernel_rfl) (by kernel_rfl) (fun _ _ _ h => h) (Or.inl ⟨by rfl, fun w hw => by kernel_rfl⟩) S2 ?_
  simp only [Act.put, List.getElem_toArray, List.getElem_cons_succ, List.getElem_cons_zero, List.setIfInBounds_toArray, List.set_cons_zero, List.set_cons_succ]
  refine L_one (j := 10) (by kernel_rfl) rfl (by rfl) ?_
  simp only [Act.put, List.getElem_toArray, List.getElem_cons_succ, List.getElem_cons_zero, List.setIfInBounds_toArray, List.set_cons_zero, List.set_cons_succ]
  refine wp_ran (v := .pointer (some ⟨g, 0, none⟩)) (w' := w2) (by kernel_rfl) ⟨S2, ?_⟩
  simp only [Act.put, List.getElem_toArray, List.getElem_cons_succ, List.getElem_cons_zero, List.setIfInBounds_toArray, List.set_cons_zero, List.set_cons_succ]
  refine L_one (j := 11) (by kernel_rfl) rfl (by rfl) ?_
  simp only [Act.put, List.getElem_toArray, List.getElem_cons_succ, List.getElem_cons_zero, List.setIfInBounds_toArray, List.set_cons_zero, List.set_cons_succ]
  refine wp_ran (v := .pointer (some ⟨g, 1, none⟩)) (w' := w2) (by go_simp) ⟨S2, ?_⟩
  simp only [Act.put, List.getElem_toArray, List.getElem_cons_succ, List.getElem_cons_zero, List.setIfInBounds_toArray, List.set_cons_zero, List.set_cons_succ]
  refine L_one (j := 12) (by kernel_rfl) rfl (by rfl) ?_
  simp only [Act.put, List.getElem_toArray, List.getElem_cons_succ, List.getElem_cons_zero, List.setIfInBounds_toArray, List.set_cons_zero, List.set_cons_succ]
  refine wp_setq 22 (.tmp 14) (.tmp 11) rfl g 1 36 _ (.slice D2 bs.length c2) rfl rfl K2 (by simp [OA.cs]) (by kernel_rfl) rfl ?_
  intro w3 K3 ho3 hs3
  have S3 : Blk w3 ps 3 #[.int .i64 s] := S2.only ho3 (fun hm => by simp at hm; exact hgs hm.symm)
  refine ⟨S3, ?_⟩
  simp only [Act.put, List.getElem_toArray, List.getElem_cons_succ, List.getElem_cons_zero, List.setIfInBounds_toArray, List.set_cons_zero, List.set_cons_succ]
  refine L_one (j := 13) (by kernel_rfl) rfl (by rfl) ?_
  simp only [Act.put, List.getElem_toArray, List.getElem_cons_succ, List.getElem_cons_zero, List.setIfInBounds_toArray, List.set_cons_zero, List.set_cons_succ]
  refine wp_ran (v := .pointer (some ⟨g, 0, none⟩)) (w' := w3) (by kernel_rfl) ⟨S3, ?_⟩
  simp only [Act.put, List.getElem_toArray, List.getElem_cons_succ, List.getElem_cons_zero, List.setIfInBounds_toArray, List.set_cons_zero, List.set_cons_succ]
  refine L_one (j := 14) (by kernel_rfl) rfl (by rfl) ?_
  simp only [Act.put, List.getElem_toArray, List.getElem_cons_succ, List.getElem_cons_zero, List.setIfInBounds_toArray, List.set_cons_zero, List.set_cons_succ]
  refine wp_ran (v := .pointer (some ⟨g, 0, none⟩)) (w' := w3) (by go_simp) ⟨S3, ?_⟩
  simp only [Act.put, List.getElem_toArray, List.getElem_cons_succ, List.getElem_cons_zero, List.setIfInBounds_toArray, List.set_cons_zero, List.set_cons_succ]
  refine L_last (by kernel_rfl) rfl (by rfl) (by kernel_rfl) ?_
  simp only [Act.put, List.getElem_toArray, List.getElem_cons_succ, List.getElem_cons_zero, List.setIfInBounds_toArray, List.set_cons_zero, List.set_cons_succ]
  refine wp_setq 4 (.tmp 16) (.tmp 12) rfl g 0 36 _ (.bool th) rfl rfl K3 (by simp [OA.cs]) (by kernel_rfl) rfl ?_
  intro w4 K4' ho4 hs4
  refine NoPanic.normal ?_
  simp only [Act.put, List.getElem_toArray, List.getElem_cons_succ, List.getElem_cons_zero, List.setIfInBounds_toArray, List.set_cons_zero, List.set_cons_succ]
  have HFIN : Hid (DoesTo w1 g w.heap.size q (atO q.v s) (.returned (.tuple #[])) w4) := Lib.hid (by
    have ho : Only [g] w1 w4 := ((Only.of_below hb2' [g]).trans ho3 (Fresh.refl _ _)).trans ho4 (Fresh.refl _ _)
    have hz2 := hb2'.size
    have hown : Own w4 w1.heap.size (.slice D2 bs.length c2) bs.length bs := by
      have hng : ∀ k ∈ rowOf (.slice D2 bs.length c2), k ≠ g := fun k hk e => by
        subst e
        have := row_over hv2 k hk
        have := HK.out.lt
        omega
      exact row_of (row_of hv2 fun k hk => ho3.block k (row_under hv2 k hk) (fun hm => by simp at hm; exact hng k hk hm)) fun k hk => ho4.block k (by have := row_under hv2 k hk; have := ho3.size; omega) (fun hm => by simp at hm; exact hng k hk hm)
    have hgl := HK.out.lt
    refine DoesTo.of (D' := D2) (bs := bs) (c' := c2) (th := th) HN.out HS.out HK.out (ho.mono (fun k hk => by simp at hk; simp [hk])) (hown.weaken (by omega)) hok2 (fun k hk => .inr (row_over hown k (by rw [row_slice _ bs.length c2 0 0]; exact hk))) hlen2 ?_ hat2 hth2
    simpa [OA.cs] using K4')
  clear K4' ho4 hs4 K3 ho3 hs3 S3 S2 K2 hv2 hok2 hat2 hlen2 hth2 hb2 hb2' K4
  go_wp2
  refine bodyPost_end (results_none rfl _ _ _) rfl ?_
  exact HFIN.out
end Go.Proofs.Ytcbpdalfindmgaa

/-
  Bytes are written into an object's head. Conditions: the object lies where it is said to; the bytes read as they are said to.
-/
namespace Go.Proofs.Ytcbpdalfindmgaa
open Go.RowKit Go.BigFrame
set_option linter.unusedSimpArgs false
set_option linter.unusedVariables false
set_option maxRecDepth 100000
/-- what grow comes to -/
def GrowTo (w : World) (g base : Nat) (q : OA) (n : Nat) (e : Ending) (w' : World) : Prop := e = .returned (.tuple #[]) ∧ ∃ (D' : Option Addr) (c' : Nat), Blk w' g 36 #[.bool q.th, .slice D' (q.dt ++ List.replicate (n - q.dt.length) 0).length c', .int .i64 q.sq, .slice q.C q.cl.length q.cc] ∧ Own w' base (.slice D' (q.dt ++ List.replicate (n - q.dt.length) 0).length c') (q.dt ++ List.replicate (n - q.dt.length) 0).length (q.dt ++ List.replicate (n - q.dt.length) 0) ∧ Only (g :: rowOf (.slice q.D 0 0)) w w' ∧ ∀ k ∈ rowOf (.slice D' 0 0), k ∈ rowOf (.slice q.D 0 0) ∨ w.heap.size ≤ k
set_option maxHeartbeats 4000000 in
theorem grow_any {w : World} {g base n : Nat} (q : OA) (K : Blk w g 36 q.cs) (hN : q.N w base) (hS : q.dt.length ≤ 10000) (hb : base ≤ w.heap.size) (hn : n ≤ 100000) : Calls Try.prog 75 #[.pointer (some ⟨g, 0, none⟩), .int .i64 (n : Int)] w (GrowTo w g base q n) := by
  have hown := hN.dt
  obtain ⟨-, hl, hmc, hD⟩ := own_len hown
  obtain ⟨m, hm⟩ : ∃ m, m = q.dt.length := ⟨_, rfl⟩
  obtain ⟨kk, hkk⟩ : ∃ kk, kk = n - m := ⟨_, rfl⟩
  have happ : ∃ (D1 : Option Addr) (c1 : Nat) (w1 : World), (Builtin.append_ #[22, 3] 22 #[.slice q.D m q.cd, .int .i64 (kk : Int)]).run Try.prog w.drew = .ok (.slice D1 (m + kk) c1) w1 ∧ Own w1 base (.slice D1 (m + kk) c1) (m + kk) (q.dt ++ List.replicate kk 0) ∧ w.drew.grownBy w1 (Value.slice q.D m q.cd).ownBlock ∧ ((Value.slice D1 (m + kk) c1).ownBlock = (Value.slice q.D m q.cd).ownBlock ∨ (Value.slice D1 (m + kk) c1).ownBlock = some w.heap.size) := by
    rw [← hm] at hown
    rcases Nat.eq_zero_or_pos kk with h0 | h0
    · rw [h0]
      refine ⟨q.D, q.cd, w.drew, run_zeros_none (w := w.drew) hown _, ?_, World.grownBy.refl _ _, .inl rfl⟩
      simpa using hown.drew
    · have hz : u8s q.dt ++ List.replicate kk (Value.int .u8 0) = u8s (q.dt ++ List.replicate kk 0) := by simp [u8s, u8]
      obtain ⟨v', w1, hrun, ho1, hg1, hv1⟩ := run_zeros_own (w := w.drew) (k := kk) hown h0 (by omega) hb 22
      rw [hz] at ho1
      obtain ⟨D1, c1, rfl, -⟩ := Own.form (show Own w1 base v' (m + kk) (q.dt ++ List.replicate kk 0) from ho1)
      exact ⟨D1, c1, w1, hrun, ho1, hg1, hv1⟩
  obtain ⟨D1, c1, w1, hrun, ho1, hg1, hv1⟩ := happ
  have hlen : (q.dt ++ List.replicate (n - q.dt.length) 0).length = m + kk := by rw [hkk, hm]; simp
  have hrowD : (Value.slice q.D m q.cd).ownBlock = (Value.slice q.D 0 0).ownBlock := by cases q.D <;> rfl
  have hrow1 : (Value.slice D1 (m + kk) c1).ownBlock = (Value.slice D1 0 0).ownBlock := by cases D1 <;> rfl
  rw [hrowD] at hg1 hv1
  rw [hrow1] at hv1
  have hoD := OA.P.dU hN
  have K1 : Blk w1 g 36 #[.bool q.th, .slice q.D q.dt.length q.cd, .int .i64 q.sq, .slice q.C q.cl.length q.cc] := (K.drew).grown hg1 (fun e => by
    obtain ⟨_, _, cs, hbb⟩ := hoD g (mem_rowOf.2 e.symm)
    exact hbb.ne_ K (by decide) rfl)
  have hon1 : Only (g :: rowOf (.slice q.D 0 0)) w w1 := ((Only.refl _ w).drew).grown hg1 (fun k e => .inl (by simp [mem_rowOf.2 e]))
  have HFIN : Hid (∀ w2, Blk w2 g 36 (#[.bool q.th, .slice q.D m q.cd, .int .i64 q.sq, .slice q.C q.cl.length q.cc].setIfInBounds 1 (.slice D1 (m + kk) c1)) → Only [g] w1 w2 → GrowTo w g base q n (.returned (.tuple #[])) w2) := Lib.hid fun w2 K2 ho2 => by
    refine ⟨rfl, D1, c1, ?_, ?_, hon1.trans ho2 (fun k hk => .inl (by simp at hk; simp [hk])), fun k hk => ?_⟩
    · rw [hlen]; simpa using K2
    · rw [hlen]
      have e : q.dt ++ List.replicate (n - q.dt.length) 0 = q.dt ++ List.replicate kk 0 := by rw [hkk, hm]
      rw [e]
      exact row_of ho1 fun k hk => ho2.block k (row_under ho1 k hk) (fun hm => by simp at hm; subst hm; obtain ⟨cs, hbb⟩ := own_ty ho1 hk; exact hbb.ne_ K1 (by decide) rfl)
    · rcases hv1 with e | e
      · left; rw [mem_rowOf] at hk ⊢; rw [← e]; exact hk
      · right
        rw [mem_rowOf, e] at hk
        injection hk with hk
        omega
  have HRUN := Lib.hid (And.intro hrun K1)
  have HKK := Lib.hid hkk
  have hC : ∀ w' : World, Blk w' g 36 #[.bool q.th, .slice q.D m q.cd, .int .i64 q.sq, .slice q.C q.cl.length q.cc] → w'.cell? ⟨g, 1, none⟩ = some (.slice q.D m q.cd) := fun w' h => h.cell 1
  have HC := Lib.hid hC
  have hS7 : Blk w.drew g 36 #[.bool q.th, .slice q.D m q.cd, .int .i64 q.sq, .slice q.C q.cl.length q.cc] := by rw [hm]; exact K.drew
  have hwd : IntKind.i64.wrap ((n : Int) - (m : Int)) = (n : Int) - (m : Int) := by rw [IntKind.wrap_i64]; omega
  have K1' : Blk w1 g 36 #[.bool q.th, .slice q.D m q.cd, .int .i64 q.sq, .slice q.C q.cl.length q.cc] := by rw [hm]; exact K1
  have HK1 := Lib.hid K1'
  clear hown hmc hD hrun ho1 hg1 hv1 hlen hrowD hrow1 hoD K1 hon1 hC K hN hm hl K1'
  go_enter Try.func75, Try.ntmps75
  go_upto_region 0 with (fail)
  refine any_beginL (fun w' => Blk w' g 36 #[.bool q.th, .slice q.D m q.cd, .int .i64 q.sq, .slice q.C q.cl.length q.cc]) 16 (by kernel_rfl) ?_
  refine L_take (i := 0) (v := .pointer (some ⟨g, 0, none⟩)) rfl rfl (by kernel_rfl) (by kernel_rfl) (by kernel_rfl) (by kernel_rfl) (fun _ _ _ h => h) (Or.inl ⟨by rfl, fun w hw => by kernel_rfl⟩) hS7 ?_
  simp only [Act.put, List.getElem_toArray, List.getElem_cons_succ, List.getElem_cons_zero, List.setIfInBounds_toArray, List.set_cons_zero, List.set_cons_succ]
  refine L_take (i := 1) (v := .pointer (some ⟨g, 0, none⟩)) rfl rfl (by kernel_rfl) (by kernel_rfl) (by kernel_rfl) (by kernel_rfl) (fun _ _ _ h => h) (Or.inl ⟨by rfl, fun w hw => by kernel_rfl⟩) hS7 ?_
  simp only [Act.put, List.getElem_toArray, List.getElem_cons_succ, List.getElem_cons_zero, List.setIfInBounds_toArray, List.set_cons_zero, List.set_cons_succ]
  refine L_take (i := 2) (v := .pointer (some ⟨g, 0, none⟩)) rfl rfl (by kernel_rfl) (by kernel_rfl) (by kernel_rfl) (by kernel_rfl) (fun _ _ _ h => h) (Or.inl ⟨by rfl, fun w hw => by kernel_rfl⟩) hS7 ?_
  simp only [Act.put, List.getElem_toArray, List.getElem_cons_succ, List.getElem_cons_zero, List.setIfInBounds_toArray, List.set_cons_zero, List.set_cons_succ]
  refine L_take (i := 3) (v := .pointer (some ⟨g, 1, none⟩)) rfl rfl (by kernel_rfl) (by kernel_rfl) (by kernel_rfl) (by kernel_rfl) (fun _ _ _ h => h) (Or.inl ⟨by rfl, fun w hw => by go_simp⟩) hS7 ?_
  simp only [Act.put, List.getElem_toArray, List.getElem_cons_succ, List.getElem_cons_zero, List.setIfInBounds_toArray, List.set_cons_zero, List.set_cons_succ]
  refine L_take (i := 4) (v := .slice q.D m q.cd) rfl rfl (by kernel_rfl) (by kernel_rfl) (by kernel_rfl) (by kernel_rfl) (fun _ _ _ h => h) (Or.inl ⟨by rfl, fun w hw => by have q1 := HC.out w hw; go_simp⟩) hS7 ?_
  simp only [Act.put, List.getElem_toArray, List.getElem_cons_succ, List.getElem_cons_zero, List.setIfInBounds_toArray, List.set_cons_zero, List.set_cons_succ]
  refine L_take (i := 5) (v := .int .i64 (n : Int)) rfl rfl (by kernel_rfl) (by kernel_rfl) (by kernel_rfl) (by kernel_rfl) (fun _ _ _ h => h) (Or.inl ⟨by rfl, fun w hw => by kernel_rfl⟩) hS7 ?_
  simp only [Act.put, List.getElem_toArray, List.getElem_cons_succ, List.getElem_cons_zero, List.setIfInBounds_toArray, List.set_cons_zero, List.set_cons_succ]
  refine L_take (i := 6) (v := .pointer (some ⟨g, 0, none⟩)) rfl rfl (by kernel_rfl) (by kernel_rfl) (by kernel_rfl) (by kernel_rfl) (fun _ _ _ h => h) (Or.inl ⟨by rfl, fun w hw => by kernel_rfl⟩) hS7 ?_
  simp only [Act.put, List.getElem_toArray, List.getElem_cons_succ, List.getElem_cons_zero, List.setIfInBounds_toArray, List.set_cons_zero, List.set_cons_succ]
  refine L_take (i := 7) (v := .pointer (some ⟨g, 0, none⟩)) rfl rfl (by kernel_rfl) (by kernel_rfl) (by kernel_rfl) (by kernel_rfl) (fun _ _ _ h => h) (Or.inl ⟨by rfl, fun w hw => by kernel_rfl⟩) hS7 ?_
  simp only [Act.put, List.getElem_toArray, List.getElem_cons_succ, List.getElem_cons_zero, List.setIfInBounds_toArray, List.set_cons_zero, List.set_cons_succ]
  refine L_take (i := 8) (v := .pointer (some ⟨g, 1, none⟩)) rfl rfl (by kernel_rfl) (by kernel_rfl) (by kernel_rfl) (by kernel_rfl) (fun _ _ _ h => h) (Or.inl ⟨by rfl, fun w hw => by go_simp⟩) hS7 ?_
  simp only [Act.put, List.getElem_toArray, List.getElem_cons_succ, List.getElem_cons_zero, List.setIfInBounds_toArray, List.set_cons_zero, List.set_cons_succ]
  refine L_take (i := 9) (v := .slice q.D m q.cd) rfl rfl (by kernel_rfl) (by kernel_rfl) (by kernel_rfl) (by kernel_rfl) (fun _ _ _ h => h) (Or.inl ⟨by rfl, fun w hw => by have q1 := HC.out w hw; go_simp⟩) hS7 ?_
  simp only [Act.put, List.getElem_toArray, List.getElem_cons_succ, List.getElem_cons_zero, List.setIfInBounds_toArray, List.set_cons_zero, List.set_cons_succ]
  refine L_take (i := 10) (v := .int .i64 (m : Int)) rfl rfl (by kernel_rfl) (by kernel_rfl) (by kernel_rfl) (by kernel_rfl) (fun _ _ _ h => h) (Or.inl ⟨by rfl, fun w hw => by go_simp⟩) hS7 ?_
  simp only [Act.put, List.getElem_toArray, List.getElem_cons_succ, List.getElem_cons_zero, List.setIfInBounds_toArray, List.set_cons_zero, List.set_cons_succ]
  refine L_take (i := 11) (v := .int .i64 ((n : Int) - (m : Int))) rfl rfl (by kernel_rfl) (by kernel_rfl) (by kernel_rfl) (by kernel_rfl) (fun _ _ _ h => h) (Or.inl ⟨by rfl, fun w hw => by go_simp⟩) hS7 ?_
  simp only [Act.put, List.getElem_toArray, List.getElem_cons_succ, List.getElem_cons_zero, List.setIfInBounds_toArray, List.set_cons_zero, List.set_cons_succ]
  refine L_take (i := 12) (v := .int .i64 (kk : Int)) rfl rfl (by kernel_rfl) (by kernel_rfl) (by kernel_rfl) (by kernel_rfl) (fun _ _ _ h => h) (Or.inl ⟨by rfl, fun w hw => by
    by_cases hnm : n ≤ m
    · have hz : kk = 0 := by omega
      clear hkk HKK
      subst hz
      have hd : decide ((0 : Int) < (n : Int) - (m : Int)) = false := decide_eq_false (by omega)
      go_simp <;> omega
    · have hd : decide ((0 : Int) < (n : Int) - (m : Int)) = true := decide_eq_true (by omega)
      go_simp <;> omega⟩) hS7 ?_
  simp only [Act.put, List.getElem_toArray, List.getElem_cons_succ, List.getElem_cons_zero, List.setIfInBounds_toArray, List.set_cons_zero, List.set_cons_succ]
  refine L_one (j := 13) (by kernel_rfl) rfl (by rfl) ?_
  simp only [Act.put, List.getElem_toArray, List.getElem_cons_succ, List.getElem_cons_zero, List.setIfInBounds_toArray, List.set_cons_zero, List.set_cons_succ]
  refine Lib.wp_append_run w.drew (.tmp 8) (.tmp 16) 22 3 rfl (.slice q.D m q.cd) (.int .i64 (kk : Int)) rfl rfl (.slice D1 (m + kk) c1) w1 HRUN.out.1 ?_
  refine ⟨HK1.out, ?_⟩
  simp only [Act.put, List.getElem_toArray, List.getElem_cons_succ, List.getElem_cons_zero, List.setIfInBounds_toArray, List.set_cons_zero, List.set_cons_succ]
  refine L_one (j := 14) (by kernel_rfl) rfl (by rfl) ?_
  simp only [Act.put, List.getElem_toArray, List.getElem_cons_succ, List.getElem_cons_zero, List.setIfInBounds_toArray, List.set_cons_zero, List.set_cons_succ]
  refine wp_ran (v := .pointer (some ⟨g, 0, none⟩)) (w' := w1) (by kernel_rfl) ⟨HK1.out, ?_⟩
  simp only [Act.put, List.getElem_toArray, List.getElem_cons_succ, List.getElem_cons_zero, List.setIfInBounds_toArray, List.set_cons_zero, List.set_cons_succ]
  refine L_one (j := 15) (by kernel_rfl) rfl (by rfl) ?_
  simp only [Act.put, List.getElem_toArray, List.getElem_cons_succ, List.getElem_cons_zero, List.setIfInBounds_toArray, List.set_cons_zero, List.set_cons_succ]
  refine wp_ran (v := .pointer (some ⟨g, 1, none⟩)) (w' := w1) (by go_simp) ⟨HK1.out, ?_⟩
  simp only [Act.put, List.getElem_toArray, List.getElem_cons_succ, List.getElem_cons_zero, List.setIfInBounds_toArray, List.set_cons_zero, List.set_cons_succ]
  refine L_last (by kernel_rfl) rfl (by rfl) (by kernel_rfl) ?_
  simp only [Act.put, List.getElem_toArray, List.getElem_cons_succ, List.getElem_cons_zero, List.setIfInBounds_toArray, List.set_cons_zero, List.set_cons_succ]
  refine wp_setq 22 (.tmp 19) (.tmp 17) rfl g 1 36 _ (.slice D1 (m + kk) c1) rfl rfl HK1.out (by simp) (by kernel_rfl) rfl ?_
  intro w2 K2 ho2 hs2
  refine NoPanic.normal ?_
  simp only [Act.put, List.getElem_toArray, List.getElem_cons_succ, List.getElem_cons_zero, List.setIfInBounds_toArray, List.set_cons_zero, List.set_cons_succ]
  have HF2 := Lib.hid (HFIN.out w2 K2 ho2)
  clear K2 ho2 hs2 hS7 HC
  go_wp2
  refine bodyPost_end (results_none rfl _ _ _) rfl ?_
  exact HF2.out
end Go.Proofs.Ytcbpdalfindmgaa
