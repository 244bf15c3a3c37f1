/-
  Rows of bytes of the call's own: noughts behind them, their beginnings and ends, bytes written into them; an object's head changed in memory. No condition but the sizes.
-/
import Derived.Test.YtjepfeagbiceoaaQj
import Derived.Lib.AppendZerosOnto
import Derived.Lib.SliceRun
import Derived.Laws.CopyRow
namespace Go.Proofs.Ytjepfeagbiceoaa
open Go.RowKit Go.BigFrame
set_option linter.unusedSimpArgs false
set_option linter.unusedVariables false
set_option maxRecDepth 100000
theorem zero_list (k : Nat) : (Builtin.zeroCells (Value.int .u8 0).cells k).toList = List.replicate k (Value.int .u8 0) := by
  apply List.ext_getElem?
  intro j
  by_cases hj : j < k
  · simp [Builtin.zeroCells, Value.cells, hj, Nat.mod_one]
  · simp [Builtin.zeroCells, Value.cells, hj]
theorem zero_arr (k : Nat) : Builtin.zeroCells (Value.int .u8 0).cells k = (List.replicate k (Value.int .u8 0)).toArray := by
  rw [← zero_list]
theorem run_zeros_own {w : World} {base n k : Nat} {v : Value} {xs : List Value} (hown : w.ownsRow base 5 1 v n xs) (h0 : 0 < k) (hn : n + k ≤ 10000000) (hbase : base ≤ w.heap.size) (ty : TypeId) :
    ∃ v' w', (Builtin.append_ #[22, 3] ty #[v, .int .i64 (k : Int)]).run Try.prog w = .ok v' w' ∧ w'.ownsRow base 5 1 v' (n + k) (xs ++ List.replicate k (Value.int .u8 0)) ∧ w.grownBy w' v.ownBlock ∧ (v'.ownBlock = v.ownBlock ∨ v'.ownBlock = some w.heap.size) := by
  obtain ⟨i0, hi0, hz0, hz1, hz2⟩ := info_parts byte_info
  have hlen : (xs ++ List.replicate k (Value.int .u8 0)).length = (n + k) * 1 := by rw [List.length_append, hown.1]; simp
  have grown : ∀ (old : Nat), old < n + k → ∀ (row : Option Nat),
      (w.drew.alloc (.cells (xs.toArray ++ Builtin.zeroCells (Value.int .u8 0).cells k ++ Builtin.zeroCells (Value.int .u8 0).cells (grownCap w (n + k) old 5 - (n + k))) 5)).ownsRow base 5 1
        (.slice (some ⟨w.heap.size, 0, none⟩) (n + k) (grownCap w (n + k) old 5)) (n + k) (xs ++ List.replicate k (Value.int .u8 0)) ∧
      w.grownBy (w.drew.alloc (.cells (xs.toArray ++ Builtin.zeroCells (Value.int .u8 0).cells k ++ Builtin.zeroCells (Value.int .u8 0).cells (grownCap w (n + k) old 5 - (n + k))) 5)) row := by
    intro old ho row
    have hge := grownCap_ge w (n + k) old 5
    have hcm : grownCap w (n + k) old 5 ≤ maxLen := grownCap_le_maxLen w (n + k) old 5 (by simp only [maxLen]; omega)
    refine ⟨⟨hlen, .inr ⟨w.heap.size, _, _, rfl, hbase, heap_alloc_new w.drew _, hge, hcm, ?_, ?_⟩⟩, ⟨rfl, rfl, rfl, by simp, fun j hj _ => heap_alloc_old w.drew _ hj⟩⟩
    · simp only [Array.size_append, List.size_toArray, size_zeroCells, hown.1]
      simp [Value.cells]
      omega
    · rw [zero_arr, zero_arr]
      simp only [Array.toList_append, List.append_assoc]
      rw [← List.append_assoc, ← hlen]
      exact List.take_left
  rcases hown.2 with ⟨rfl, rfl⟩ | ⟨g, cap, cur, rfl, hbg, hg, hnc, hcm, hcs, htake⟩
  · have hx : xs = [] := List.eq_nil_of_length_eq_zero (by simpa using hown.1)
    subst hx
    have hr := Lib.run_append_nil_zeros (P := Try.prog) w 22 3 ty 5 i0 (.int .u8 0) .i64 .i64 Try.underlying22 Try.underlying3 hi0 hz0 k h0 (by omega) (by omega) (by rw [hz2]; omega)
    have hgr := grown 0 (by omega) (Value.ownBlock (.slice none 0 0))
    simp only [Nat.zero_add, List.nil_append, Array.empty_append] at hgr ⊢
    exact ⟨_, _, hr, hgr.1, hgr.2, .inr rfl⟩
  · by_cases hroom : n + k ≤ cap
    · have hst := run_storeCells_at Try.prog g n 5 (List.replicate k (Value.int .u8 0)) 0 cur w hg (by simp; omega) (fun u hu => by rw [List.eq_of_mem_replicate hu]; rfl)
      simp only [Nat.add_zero] at hst
      have hkk : k ≠ 0 := by omega
      have hw : IntKind.i64.wrap (k : Int) = k := by rw [IntKind.wrap_i64]; omega
      have hneg : ¬ ((k : Int) < 0) := by omega
      have h48i : ¬ (281474976710656 < (k : Int) * (i0.bytes : Int)) := by rw [hz2]; omega
      have hns : ¬ (k * i0.size = 0) := by rw [hz1]; omega
      have hr : (Builtin.append_ #[22, 3] ty #[.slice (some ⟨g, 0, none⟩) n cap, .int .i64 (k : Int)]).run Try.prog w = .ok (.slice (some ⟨g, 0, none⟩) (n + k) cap) (w.setRow g (cur.toList.take n ++ List.replicate k (Value.int .u8 0) ++ cur.toList.drop (n + (List.replicate k (Value.int .u8 0)).length)).toArray) := by
        have hz := zero_list k
        simp [Builtin.append_, run_underlying Try.underlying22, run_underlying Try.underlying3, sizeOf, typeInfo, zeroValue, hi0, hz0, hz1, asInt, asIntOf, hw, hneg, h48i, hkk, hroom, Addr.add_lit] at hst ⊢
        rw [zero_arr]
        simp [hst]
      refine ⟨_, _, hr, ⟨hlen, .inr ⟨g, cap, _, rfl, hbg, setRow_heap w g cur _ 5 _ hg, hroom, hcm, ?_, ?_⟩⟩, ⟨rfl, rfl, rfl, by simp, fun j _ hj => setRow_other w g j _ (fun e => hj (by simp [Value.ownBlock, e]))⟩, .inl rfl⟩
      · simp only [List.size_toArray, List.length_append, List.length_take, List.length_drop, Array.length_toList, List.length_replicate]
        omega
      · have ht : cur.toList.take n = xs := by simpa using htake
        rw [ht, ← hlen]
        exact List.take_left
    · have holds : ∀ j u, xs[j]? = some u → w.cell? ((⟨g, 0, none⟩ : Addr).add j) = some u := hown.cells (g := g) rfl
      have hold := run_firstCells_some (P := Try.prog) w.drew i0.size n ⟨g, 0, none⟩ n cap xs (by rw [hz1]; exact hown.1) holds
      have hr := Lib.run_append_grow_zeros (P := Try.prog) w 22 3 ty 5 i0 (.int .u8 0) .i64 .i64 Try.underlying22 Try.underlying3 hi0 hz0 (some ⟨g, 0, none⟩) n cap xs hold k h0 (by omega) (by omega) (by omega) (by rw [hz2]; omega) (growslice_fits (by omega) (by rw [hz2]; omega))
      have hgr := grown cap (by omega) (Value.ownBlock (.slice (some ⟨g, 0, none⟩) n cap))
      exact ⟨_, _, hr, hgr.1, hgr.2, .inr rfl⟩
theorem own_len {w : World} {base n m c : Nat} {D : Option Addr} {bs : List Nat} (h : Own w base (.slice D m c) n bs) : m = n ∧ bs.length = n ∧ n ≤ c ∧ (D = none ∨ ∃ b, D = some ⟨b, 0, none⟩) := by
  have hl : bs.length = n := by have := h.1; rw [u8s_length] at this; omega
  rcases h.2 with ⟨e, h0⟩ | ⟨b, cap, cur, e, hb, hh, h1, _⟩
  · injection e with e1 e2 e3
    exact ⟨by omega, hl, by omega, .inl e1⟩
  · injection e with e1 e2 e3
    exact ⟨e2, hl, by omega, .inr ⟨b, e1⟩⟩
theorem own_take {w : World} {base m c n : Nat} {D : Option Addr} {bs : List Nat} (h : Own w base (.slice D m c) m bs) (hn : n ≤ m) : Own w base (.slice D n c) n (bs.take n) := by
  obtain ⟨-, hl, -, -⟩ := own_len h
  rcases h.2 with ⟨e, h0⟩ | ⟨b, cap, cur, e, hb, hh, h1, h2, h3, h4⟩
  · injection e with e1 e2 e3
    subst e1
    have : n = 0 := by omega
    subst this
    have hc : c = 0 := by omega
    subst hc
    exact Own.nil w base
  · injection e with e1 e2 e3
    subst e1 e3
    refine ⟨by rw [u8s_length]; simp; omega, .inr ⟨b, c, cur, rfl, hb, hh, by omega, h2, h3, ?_⟩⟩
    rw [show u8s (bs.take n) = (u8s bs).take n from by simp [u8s, List.map_take], ← h4, List.take_take]
    congr 1
    omega
theorem run_head_bytes (D : Option Addr) (m c n : Nat) (h : n ≤ c) (hD : D = none ∨ ∃ b, D = some ⟨b, 0, none⟩) (w : World) : (Instr.slice 22 (.slice D m c) none (some (.int .i64 (n : Int))) none).run Try.prog w = .ok (.slice D n c) w := by
  have hsz : ∀ w, (sizeOf (Try.prog.elem 22)).run Try.prog w = .ok 1 w := fun w => by kernel_rfl
  rw [run_slice_h w 22 D m c (by kernel_rfl) .i64 (n : Int) (by omega) (by omega), hsz]
  rcases hD with rfl | ⟨b, rfl⟩
  · simp [Result.andThen, sliced]
  · simp [Result.andThen, sliced, Addr.add]
theorem run_cut_bytes (A : Option Addr) (m c k : Nat) (hk : k ≤ m) (w : World) : (Instr.slice 22 (.slice A m c) (some (.int .i64 k)) none none).run Try.prog w = .ok (.slice (if c = k then A else A.map (·.add (k * 1))) (m - k) (c - k)) w := by
  have hsz : ∀ w, (sizeOf (Try.prog.elem 22)).run Try.prog w = .ok 1 w := fun w => by kernel_rfl
  rw [run_slice_l w 22 A m c (by kernel_rfl) .i64 k (by omega) (by omega), hsz]
  simp only [Result.andThen, sliced, Int.toNat_natCast]
theorem own_copy {w : World} {base b n c at_ : Nat} {R nb : List Nat} (h : Own w base (.slice (some ⟨b, 0, none⟩) n c) n R) (hk : at_ + nb.length ≤ n) : ∃ cur : Array Value, Blk w b 5 cur ∧ at_ + nb.length ≤ cur.size ∧
    Own (w.setRow b (cur.toList.take at_ ++ u8s nb ++ cur.toList.drop (at_ + (u8s nb).length)).toArray) base (.slice (some ⟨b, 0, none⟩) n c) n (R.take at_ ++ nb ++ R.drop (at_ + nb.length)) ∧ Only [b] w (w.setRow b (cur.toList.take at_ ++ u8s nb ++ cur.toList.drop (at_ + (u8s nb).length)).toArray) := by
  obtain ⟨-, hl, -, -⟩ := own_len h
  rcases h.2 with ⟨e, h0⟩ | ⟨b', cap, cur, e, hb, hh, h1, h2, h3, h4⟩
  · cases e
  · injection e with e1 e2 e3
    injection e1 with e1
    injection e1 with e1
    subst e1 e3
    refine ⟨cur, hh, by omega, ⟨?_, .inr ⟨b, c, _, rfl, hb, setRow_heap w b cur _ 5 _ hh, h1, h2, ?_, ?_⟩⟩, ⟨rfl, rfl, rfl, by simp [World.setRow], fun k _ hk => setRow_other w b k _ (fun e => hk (by simp [e]))⟩⟩
    · rw [u8s_length]
      simp
      omega
    · simp [u8s_length]
      omega
    · have hcl : cur.toList.length = c := by simp; omega
      have h4' : cur.toList.take n = u8s R := by simpa using h4
      apply List.ext_getElem?
      intro j
      have hR : ∀ j, j < n → cur.toList[j]? = (u8s R)[j]? := fun j hj => by rw [← h4', List.getElem?_take, if_pos hj]
      have hu : u8s (R.take at_ ++ nb ++ R.drop (at_ + nb.length)) = (u8s R).take at_ ++ u8s nb ++ (u8s R).drop (at_ + nb.length) := by simp [u8s, List.map_take, List.map_drop]
      rw [hu, Nat.mul_one, List.getElem?_take]
      have hul : (u8s R).length = n := by rw [u8s_length]; exact hl
      by_cases hj : j < n
      · rw [if_pos hj]
        simp only [List.toList_toArray, List.getElem?_append, List.length_append, List.length_take, List.getElem?_take, List.getElem?_drop, u8s_length]
        rw [show min at_ cur.toList.length = at_ by omega, show min at_ R.length = at_ by omega]
        by_cases h5 : j < at_
        · rw [if_pos (by omega), if_pos h5, if_pos h5, if_pos (by omega), if_pos h5, if_pos h5]
          exact hR j hj
        · by_cases h6 : j < at_ + nb.length
          · rw [if_pos (by omega), if_neg h5, if_pos (by omega), if_neg h5]
          · rw [if_neg (by omega), if_neg (by omega)]
            rw [show at_ + nb.length + (j - (at_ + nb.length)) = j by omega]
            exact hR j hj
      · rw [if_neg hj, List.getElem?_eq_none]
        simp [u8s_length]
        omega
theorem clear_own {w : World} {base b n c at_ k : Nat} {R : List Nat} (h : Own w base (.slice (some ⟨b, 0, none⟩) n c) n R) (hk : at_ + k ≤ n) (h0 : 0 < k) :
    ∃ w', (∀ ty cc, (Builtin.clear_ #[22] ty #[.slice (some ⟨b, at_, none⟩) k cc]).run Try.prog w = .ok (.tuple #[]) w') ∧ Own w' base (.slice (some ⟨b, 0, none⟩) n c) n (R.take at_ ++ List.replicate k 0 ++ R.drop (at_ + k)) ∧ Only [b] w w' := by
  have hv : ∀ w, (zeroValue 5).run Try.prog w = .ok (.int .u8 0) w := fun w => by kernel_rfl
  obtain ⟨cur, hcur, hfit, hown, hon⟩ := own_copy (at_ := at_) (nb := List.replicate k 0) h (by simpa using hk)
  have hu : u8s (List.replicate k 0) = List.replicate k (Value.int .u8 0) := by simp [u8s, u8]
  have hst := run_storeCells_at Try.prog b at_ 5 (List.replicate k (Value.int .u8 0)) 0 cur w hcur (by simpa using hfit) (fun u hu => by rw [List.eq_of_mem_replicate hu]; rfl)
  rw [hu] at hown hon
  simp only [List.length_replicate] at hown hon hst
  refine ⟨_, fun ty cc => ?_, hown, hon⟩
  obtain ⟨m, rfl⟩ : ∃ m, k = m + 1 := ⟨k - 1, by omega⟩
  have hz := zero_list (m + 1)
  simp [Builtin.clear_, run_underlying Try.underlying22, hv, hz] at hst ⊢
  simp [hst]
theorem run_zeros_none {w : World} {base n : Nat} {v : Value} {xs : List Value} (hown : w.ownsRow base 5 1 v n xs) (ty : TypeId) :
    (Builtin.append_ #[22, 3] ty #[v, .int .i64 0]).run Try.prog w = .ok v w := by
  obtain ⟨i0, hi0, hz0, hz1, hz2⟩ := info_parts byte_info
  rcases hown.2 with ⟨rfl, rfl⟩ | ⟨g, cap, cur, rfl, hbg, hg, hnc, hcm, hcs, htake⟩
  · simp [Builtin.append_, run_underlying Try.underlying22, run_underlying Try.underlying3, sizeOf, typeInfo, zeroValue, hi0, hz0, hz1, asInt, asIntOf, IntKind.wrap_i64]
  · have hst : (storeCells ⟨g, n, none⟩ []).run Try.prog w = .ok () w := by simp [storeCells]
    simp [Builtin.append_, run_underlying Try.underlying22, run_underlying Try.underlying3, sizeOf, typeInfo, zeroValue, hi0, hz0, hz1, asInt, asIntOf, IntKind.wrap_i64, hnc, storeCells, Builtin.zeroCells]
/-- the head of an object of the call's own is another one -/
theorem OA.N.data {q : OA} {w w' : World} {g base c' : Nat} {cs : Array Value} {D' : Option Addr} {bs : List Nat} {th : Bool} (h : q.N w base) (K : Blk w g 36 cs) (ho : Only (g :: rowOf (.slice q.D 0 0)) w w') (hown : Own w' base (.slice D' bs.length c') bs.length bs) (hok : ∀ b ∈ bs, b < 256)
    (hnew : ∀ k ∈ rowOf (.slice D' 0 0), k ∈ rowOf (.slice q.D 0 0) ∨ w.heap.size ≤ k) : OA.N {q with th := th, dt := bs, D := D', cd := c'} w' base := by
  have hdis : ∀ a ∈ q.cl.map CA.dR, ∀ k ∈ rowOf (.slice q.D 0 0), k ∉ a := by
    have := h.dD
    unfold Dis at this
    rw [List.pairwise_cons] at this
    exact this.1
  have hkeep : ∀ k t cs', Blk w k t cs' → t = 3 ∨ t = 79 ∨ (t = 5 ∧ k ∉ rowOf (.slice q.D 0 0)) → w'.heap[k]? = w.heap[k]? := fun k t cs' hb ht => ho.block k hb.lt (fun hm => by
    rcases List.mem_cons.1 hm with e | hm
    · subst e
      refine hb.ne_ K ?_ rfl
      rcases ht with rfl | rfl | ⟨rfl, _⟩ <;> decide
    · obtain ⟨_, _, cs2, hb2⟩ := OA.P.dU h k hm
      rcases ht with rfl | rfl | ⟨_, hn⟩
      · exact hb.ne_ hb2 (by decide) rfl
      · exact hb.ne_ hb2 (by decide) rfl
      · exact hn hm)
  have hN : ∀ c ∈ q.cl, c.N w' base := fun c hc => (h.cl c hc).of (fun k hm => by obtain ⟨_, _, cs2, hb⟩ := (h.cl c hc).sU k hm; exact hkeep k _ cs2 hb (.inl rfl)) (fun k hm => by
    obtain ⟨_, _, cs2, hb⟩ := (h.cl c hc).dU k hm
    exact hkeep k _ cs2 hb (.inr (.inr ⟨rfl, fun hx => hdis _ (List.mem_map.2 ⟨c, hc, rfl⟩) k hx hm⟩)))
  refine ⟨hown, hok, row_of h.row fun k hk => by obtain ⟨cs2, hb⟩ := own_ty h.row hk; exact hkeep k _ cs2 hb (.inr (.inl rfl)), hN, h.q1, h.q2, ?_, h.dS⟩
  have h1 := h.dD
  unfold Dis at h1 ⊢
  rw [List.pairwise_cons] at h1 ⊢
  refine ⟨fun a ha k hk hx => ?_, h1.2⟩
  rcases hnew k hk with e | e
  · exact h1.1 a ha k e hx
  · obtain ⟨c, hc, rfl⟩ := List.mem_map.1 ha
    have := ((h.cl c hc).dU k hx).2.1
    omega
/-- what is done: the head's bytes -/
theorem DoesTo.of {w1 w' : World} {g base c' : Nat} {q : OA} {D' : Option Addr} {bs : List Nat} {th : Bool} {hd : Option (List Nat)} (h : q.N w1 base) (hS : q.Sm) (K : Blk w1 g 36 q.cs) (ho : Only (g :: rowOf (.slice q.D 0 0)) w1 w') (hown : Own w' base (.slice D' bs.length c') bs.length bs) (hok : ∀ b ∈ bs, b < 256)
    (hnew : ∀ k ∈ rowOf (.slice D' 0 0), k ∈ rowOf (.slice q.D 0 0) ∨ w1.heap.size ≤ k) (hl : bs.length ≤ 10000) (K' : Blk w' g 36 #[.bool th, .slice D' bs.length c', .int .i64 q.sq, .slice q.C q.cl.length q.cc]) (hh : hd = if th = true then some bs else none) (hth : th = false → bs = []) :
    DoesTo w1 g base q hd (.returned (.tuple #[])) w' := by
  refine ⟨rfl, {q with th := th, dt := bs, D := D', cd := c'}, ?_, K', h.data K ho hown hok hnew, ⟨hl, hS.cn, hS.cl⟩, ho⟩
  subst hh
  cases th with
  | true => rfl
  | false =>
    have := hth rfl
    subst this
    rfl
end Go.Proofs.Ytjepfeagbiceoaa
