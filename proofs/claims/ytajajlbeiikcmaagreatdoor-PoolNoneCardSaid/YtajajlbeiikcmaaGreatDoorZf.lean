/-
 Objects: how many blocks they have and need, a part of their bytes. Conditions: an object's cells hold what they are said to.
-/
import Derived.Test.YtajajlbeiikcmaaGreatDoorZe
import Derived.Lib.AppendZerosOnto
import Derived.Deep.CutRange
import Derived.BigQuiet
import Derived.Shelf.SlMaps.Clone
namespace Go.Proofs.YtajajlbeiikcmaaGreatDoor
set_option linter.unusedSimpArgs false
set_option linter.unusedVariables false
set_option maxRecDepth 100000
section
open Go.RowKit Go.BigFrame
theorem xBK {L : List (Nat × Nat)} {q : Nat} (h : q < L.length) : lens (L.take (q + 1)) = lens (L.take q) + (gx L q).2 := by
 rw [List.take_add_one, x0Q h]
 simp [lens]
theorem xDB (L : List (Nat × Nat)) (q : Nat) : lens (L.take q) <= lens L := by
 conv => rhs; rw [<- List.take_append_drop q L]
 simp only [lens, List.map_append, List.sum_append]
 omega
set_option maxHeartbeats 2000000 in
theorem xBE {w : World} {g B c : Nat} {E : Option Addr} {es : List (Nat × Nat)} (h2 : w.cell? ⟨g, 2, none⟩ = some (.slice E es.length c)) (hE : ExtR w B E (natE es)) (hB : B <= w.heap.size) (hl : lens es <= 1000000) (hn : es.length <= 1000000) :
  Calls Tryz.prog 172 #[.pointer (some ⟨g, 0, none⟩)] w fun e w' => e = .returned (.int .i64 (lens es)) /\ Below w.heap.size w w' := by
 have HE := kH hE
 have HN : Hid ((natE es).length = es.length) := kH (by simp [natE])
 clear hE
 go_enter Tryz.func172, Tryz.ntmps172
 go_wp2
 go_loopw [3, 11] (fun s i wr => ∃ k : Nat, k <= es.length /\ i = .int .i64 k /\ s = .int .i64 (lens (es.take k)) /\ Below w.heap.size w wr) (fun _ i _ => es.length - (intS i).toNat)
 case atStart => exact ⟨0, by omega, rfl, by simp [lens], Below.refl _ _⟩
 case round =>
  obtain ⟨k, hk, rfl, rfl, hb⟩ := hrel
  have HB := kH hb
  by_cases hlt : k < es.length
  ·obtain ⟨ad, e, rfl, hab, he, a0, a1⟩ := (HE.out.only (Only.of_below hb []) hB (fun _ _ => by simp)).get (k := k) (by rw [HN.out]; exact hlt)
   have he2 : e = (((gx es k).1 : Int), ((gx es k).2 : Int)) := by
    simp only [natE, List.getElem?_map, x0Q hlt, Option.map_some] at he
    injection he with he
    exact he.symm
   subst he2
   have hs := xBK hlt
   have hle := xDB es (k + 1)
   have hws : IntKind.i64.wrap ((lens (es.take k) : Int) + ((gx es k).2 : Int)) = ((lens (es.take (k + 1)) : Nat) : Int) := by rw [hs, IntKind.wrap_i64]; omega
   have hwk : IntKind.i64.wrap ((k : Int) + 1) = (k : Int) + 1 := by rw [IntKind.wrap_i64]; omega
   have HS := kH hs
   clear he hb hs
   generalize lens (es.take (k + 1)) = s1 at *
   go_wp2_with (have _h := a0; refine x26 rfl (.tmp 13) rfl _ rfl _ a0 a1 ?_; clear _h a0 a1)
   go_roundw
   case rel => exact ⟨k + 1, by omega, by go_num, by rw [xBK hlt, <- HS.out], HB.out.alloc HB.out.size _⟩
   case measure => simp [intS]; omega
  ·obtain rfl : k = es.length := by omega
   clear hb
   go_wp2
   go_ret
   rw [List.take_length]
   exact ⟨rfl, HB.out⟩
theorem xB7 {w : World} {g m c : Nat} {D : Option Addr} (h0 : w.cell? ⟨g, 0, none⟩ = some (.slice D m c)) (hm : m <= 1000000) :
  Calls Tryz.prog 173 #[.pointer (some ⟨g, 0, none⟩)] w fun e w' => e = .returned (.int .i64 (((m + 15) / 16 : Nat) : Int)) /\ w = w' := by
 have hw1 : IntKind.i64.wrap ((m : Int) + 16) = (m : Int) + 16 := by rw [IntKind.wrap_i64]; omega
 have hw2 : IntKind.i64.wrap ((m : Int) + 16 - 1) = (m : Int) + 15 := by rw [IntKind.wrap_i64]; omega
 have hw3 : IntKind.i64.wrap (((m : Int) + 15).tdiv 16) = (((m + 15) / 16 : Nat) : Int) := by
  rw [Int.tdiv_eq_ediv_of_nonneg (by omega), IntKind.wrap_i64]
  omega
 go_enter Tryz.func173, Tryz.ntmps173
 go_wp2
 go_ret
 exact ⟨rfl, rfl⟩
end
section
open Go.RowKit Go.BigFrame
theorem x73 (k : Nat) : (Builtin.zeroCells (Value.int .u8 0).cells k).toList = List.replicate k (Value.int .u8 0) := by
 apply List.ext_getElem?
 intro j
 by_cases hj : j < k
 ·simp [Builtin.zeroCells, Value.cells, hj, Nat.mod_one]
 ·simp [Builtin.zeroCells, Value.cells, hj]
theorem x8H (k : Nat) : Builtin.zeroCells (Value.int .u8 0).cells k = (List.replicate k (Value.int .u8 0)).toArray := by
  rw [<- x73]
theorem xBS {w : World} {base n k : Nat} {v : Value} {xs : List Value} (hown : w.ownsRow base 5 1 v n xs) (h0 : 0 < k) (hn : n + k <= 10000000) (hbase : base <= w.heap.size) (ty : TypeId) :
    ∃ v' w', (Builtin.append_ #[35, 3] ty #[v, .int .i64 (k : Int)]).run Tryz.prog w = .ok v' w' /\ w'.ownsRow base 5 1 v' (n + k) (xs ++ List.replicate k (Value.int .u8 0)) /\ w.grownBy w' v.ownBlock /\ (v'.ownBlock = v.ownBlock ∨ v'.ownBlock = some w.heap.size) := by
  obtain ⟨i0, hi0, hz0, hz1, hz2⟩ := info_parts xB5
  have hlen : (xs ++ List.replicate k (Value.int .u8 0)).length = (n + k) * 1 := by rw [List.length_append, hown.1]; simp
  have grown : ∀ (old : Nat), old < n + k -> ∀ (row : Option Nat),
      (w.drew.alloc (.cells (xs.toArray ++ Builtin.zeroCells (Value.int .u8 0).cells k ++ Builtin.zeroCells (Value.int .u8 0).cells (grownCap w (n + k) old 5 - (n + k))) 5)).ownsRow base 5 1
        (.slice (some ⟨w.heap.size, 0, none⟩) (n + k) (grownCap w (n + k) old 5)) (n + k) (xs ++ List.replicate k (Value.int .u8 0)) ∧
      w.grownBy (w.drew.alloc (.cells (xs.toArray ++ Builtin.zeroCells (Value.int .u8 0).cells k ++ Builtin.zeroCells (Value.int .u8 0).cells (grownCap w (n + k) old 5 - (n + k))) 5)) row := by
    intro old ho row
    have hge := grownCap_ge w (n + k) old 5
    have hcm : grownCap w (n + k) old 5 <= maxLen := grownCap_le_maxLen w (n + k) old 5 (by simp only [maxLen]; omega)
    refine ⟨⟨hlen, .inr ⟨w.heap.size, _, _, rfl, hbase, heap_alloc_new w.drew _, hge, hcm, ?_, ?_⟩⟩, ⟨rfl, rfl, rfl, by simp, fun j hj _ => heap_alloc_old w.drew _ hj⟩⟩
    · simp only [Array.size_append, List.size_toArray, size_zeroCells, hown.1]
      simp [Value.cells]
      omega
    · rw [x8H, x8H]
      simp only [Array.toList_append, List.append_assoc]
      rw [<- List.append_assoc, <- hlen]
      exact List.take_left
  rcases hown.2 with ⟨rfl, rfl⟩ | ⟨g, cap, cur, rfl, hbg, hg, hnc, hcm, hcs, htake⟩
  · have hx : xs = [] := List.eq_nil_of_length_eq_zero (by simpa using hown.1)
    subst hx
    have hr := Lib.run_append_nil_zeros (P := Tryz.prog) w 35 3 ty 5 i0 (.int .u8 0) .i64 .i64 Tryz.underlying35 Tryz.underlying3 hi0 hz0 k h0 (by omega) (by omega) (by rw [hz2]; omega)
    have hgr := grown 0 (by omega) (Value.ownBlock (.slice none 0 0))
    simp only [Nat.zero_add, List.nil_append, Array.empty_append] at hgr ⊢
    exact ⟨_, _, hr, hgr.1, hgr.2, .inr rfl⟩
  · by_cases hroom : n + k <= cap
    · have hst := run_storeCells_at Tryz.prog g n 5 (List.replicate k (Value.int .u8 0)) 0 cur w hg (by simp; omega) (fun u hu => by rw [List.eq_of_mem_replicate hu]; rfl)
      simp only [Nat.add_zero] at hst
      have hkk : k ≠ 0 := by omega
      have hw : IntKind.i64.wrap (k : Int) = k := by rw [IntKind.wrap_i64]; omega
      have hneg : ¬ ((k : Int) < 0) := by omega
      have h48i : ¬ (281474976710656 < (k : Int) * (i0.bytes : Int)) := by rw [hz2]; omega
      have hns : ¬ (k * i0.size = 0) := by rw [hz1]; omega
      have hr : (Builtin.append_ #[35, 3] ty #[.slice (some ⟨g, 0, none⟩) n cap, .int .i64 (k : Int)]).run Tryz.prog w = .ok (.slice (some ⟨g, 0, none⟩) (n + k) cap) (w.setRow g (cur.toList.take n ++ List.replicate k (Value.int .u8 0) ++ cur.toList.drop (n + (List.replicate k (Value.int .u8 0)).length)).toArray) := by
        have hz := x73 k
        simp [Builtin.append_, run_underlying Tryz.underlying35, run_underlying Tryz.underlying3, sizeOf, typeInfo, zeroValue, hi0, hz0, hz1, asInt, asIntOf, hw, hneg, h48i, hkk, hroom, Addr.add_lit] at hst ⊢
        rw [x8H]
        simp [hst]
      refine ⟨_, _, hr, ⟨hlen, .inr ⟨g, cap, _, rfl, hbg, setRow_heap w g cur _ 5 _ hg, hroom, hcm, ?_, ?_⟩⟩, ⟨rfl, rfl, rfl, by simp, fun j _ hj => setRow_other w g j _ (fun e => hj (by simp [Value.ownBlock, e]))⟩, .inl rfl⟩
      · simp only [List.size_toArray, List.length_append, List.length_take, List.length_drop, Array.length_toList, List.length_replicate]
        omega
      · have ht : cur.toList.take n = xs := by simpa using htake
        rw [ht, <- hlen]
        exact List.take_left
    · have holds : ∀ j u, xs[j]? = some u -> w.cell? ((⟨g, 0, none⟩ : Addr).add j) = some u := hown.cells (g := g) rfl
      have hold := run_firstCells_some (P := Tryz.prog) w.drew i0.size n ⟨g, 0, none⟩ n cap xs (by rw [hz1]; exact hown.1) holds
      have hr := Lib.run_append_grow_zeros (P := Tryz.prog) w 35 3 ty 5 i0 (.int .u8 0) .i64 .i64 Tryz.underlying35 Tryz.underlying3 hi0 hz0 (some ⟨g, 0, none⟩) n cap xs hold k h0 (by omega) (by omega) (by omega) (by rw [hz2]; omega) (growslice_fits (by omega) (by rw [hz2]; omega))
      have hgr := grown cap (by omega) (Value.ownBlock (.slice (some ⟨g, 0, none⟩) n cap))
      exact ⟨_, _, hr, hgr.1, hgr.2, .inr rfl⟩
end
section
open Go.RowKit Go.BigFrame
def resizeB (bs : List Nat) (n : Nat) : List Nat := bs.take n ++ List.replicate (n - bs.length) 0
theorem x80 (bs : List Nat) (n : Nat) : (resizeB bs n).length = n := by simp [resizeB]; omega
theorem x22 {w : World} {base n m c : Nat} {D : Option Addr} {bs : List Nat} (h : Own w base (.slice D m c) n bs) : m = n /\ bs.length = n /\ n <= c /\ (D = none ∨ ∃ b, D = some ⟨b, 0, none⟩) := by
 have hl : bs.length = n := by have := h.1; rw [x0C] at this; omega
 rcases h.2 with ⟨e, h0⟩ | ⟨b, cap, cur, e, hb, hh, h1, _⟩
 ·injection e with e1 e2 e3
  exact ⟨by omega, hl, by omega, .inl e1⟩
 ·injection e with e1 e2 e3
  exact ⟨e2, hl, by omega, .inr ⟨b, e1⟩⟩
theorem xMY {w : World} {base m c n : Nat} {D : Option Addr} {bs : List Nat} (h : Own w base (.slice D m c) m bs) (hn : n <= m) : Own w base (.slice D n c) n (bs.take n) := by
 obtain ⟨-, hl, -, -⟩ := x22 h
 rcases h.2 with ⟨e, h0⟩ | ⟨b, cap, cur, e, hb, hh, h1, h2, h3, h4⟩
 ·injection e with e1 e2 e3
  subst e1
  have : n = 0 := by omega
  subst this
  have hc : c = 0 := by omega
  subst hc
  exact Own.nil w base
 ·injection e with e1 e2 e3
  subst e1 e3
  refine ⟨by rw [x0C]; simp; omega, .inr ⟨b, c, cur, rfl, hb, hh, by omega, h2, h3, ?_⟩⟩
  rw [show u8s (bs.take n) = (u8s bs).take n from by simp [u8s, List.map_take], <- h4, List.take_take]
  congr 1
  omega
theorem x4V (D : Option Addr) (m c n : Nat) (h : n <= c) (hD : D = none ∨ ∃ b, D = some ⟨b, 0, none⟩) (w : World) : (Instr.slice 35 (.slice D m c) none (some (.int .i64 (n : Int))) none).run Tryz.prog w = .ok (.slice D n c) w := by
 have hsz : ∀ w, (sizeOf (Tryz.prog.elem 35)).run Tryz.prog w = .ok 1 w := fun w => by kernel_rfl
 rw [run_slice_h w 35 D m c (by kernel_rfl) .i64 (n : Int) (by omega) (by omega), hsz]
 rcases hD with rfl | ⟨b, rfl⟩
 ·simp [Result.andThen, sliced]
 ·simp [Result.andThen, sliced, Addr.add]
theorem x6V {P : Program} (w : World) (g i : Nat) (ty : TypeId) (v : Value) (ht : w.there g i 1) (hi : (P.info? ty).map (·.size) = some 1) (h1 : v.oneCell' = true) :
  (storeVar ty ⟨g, i, none⟩ v).run P w = .ok () (w.setCell ⟨g, i, none⟩ v) := by
 have := run_storeCells_cells (P := P) g i [v] 0 w (fun j hj => by simpa using (ht j (by simpa using hj)).1) (fun j hj => by simpa using (ht j (by simpa using hj)).2) (fun u hu => by simp at hu; subst hu; exact h1)
 have hc : v.cells = #[v] := by cases v <;> first | rfl | cases h1
 cases hq : P.info? ty with
 | none => simp [hq] at hi
 | some i0 =>
  have hs : i0.size = 1 := by simpa [hq] using hi
  simp only [Nat.add_zero] at this
  simp [storeVar, sizeOf, typeInfo, hq, hc, hs, this, World.setCells]
theorem x2L {P : Program} {o : Oper} {a : Act} {w : World} {K : Act -> World -> Prop} {Q : Exit -> Act -> World -> Prop} (ty : TypeId) (x y : Operand) (ho : o.op = .store ty x y)
  (g i : Nat) (t : TypeId) (cs : Array Value) (v : Value) (hx : a.eval x = .pointer (some ⟨g, i, none⟩)) (hy : a.eval y = v) (hB : Blk w g t cs) (hs : i < cs.size) (hi : (P.info? ty).map (·.size) = some 1) (h1 : v.oneCell' = true)
  (h : K (a.put o.dst undef) (w.setCell ⟨g, i, none⟩ v)) : o.wp P a w K Q := by
 unfold Oper.wp execOp
 simp only [ho, hx, hy, Instr.storeAt, Instr.sureAddr, Sem.run_bind, Sem.run_pure, Result.andThen_ok, x6V w g i ty v (hB.there (by omega)) hi h1]
 exact h
def ResizeTo (w : World) (g : Nat) (t : TypeId) (cs : Array Value) (D : Option Addr) (m c base : Nat) (bs : List Nat) (n : Nat) (e : Ending) (w' : World) : Prop :=
  e = .returned (.tuple #[]) /\ ∃ D' c', Blk w' g t (cs.setIfInBounds 0 (.slice D' n c')) /\ Own w' base (.slice D' n c') n (resizeB bs n) /\ Only (g :: rowOf (.slice D m c)) w w' /\ (D' = D ∨ ∃ b, D' = some ⟨b, 0, none⟩ /\ w.heap.size <= b)
set_option maxHeartbeats 4000000 in
theorem x9U {w : World} {g base m c n : Nat} {t : TypeId} {cs : Array Value} {D : Option Addr} {bs : List Nat} (hb : Blk w g t cs) (ht : t ≠ 5) (h0 : cs[0]? = some (.slice D m c)) (ho : Own w base (.slice D m c) m bs) (hbase : base <= w.heap.size) (hn : n <= 1000000) (hm : m <= 1000000) :
  Calls Tryz.prog 170 #[.pointer (some ⟨g, 0, none⟩), .int .i64 (n : Int)] w (ResizeTo w g t cs D m c base bs n) := by
 obtain ⟨-, hl, hmc, hD⟩ := x22 ho
 have q0 : w.cell? ⟨g, 0, none⟩ = some (.slice D m c) := by rw [hb.cell]; exact h0
 have f0 : w.frozen? ⟨g, 0, none⟩ = false := hb.frozen 0
 have HB := kH hb
 have HO := kH ho
 have hs0 : cs.size ≠ 0 := fun e => by rw [Array.getElem?_eq_none (by omega)] at h0; cases h0
 have HR : Hid (∀ b, (Value.slice D m c).ownBlock = some b -> b ≠ g) := kH fun b hk => by
  rcases ho.2 with ⟨e, _⟩ | ⟨b', cap, cur, e, _, hh, _⟩
  ·rw [e] at hk; simp [Value.ownBlock] at hk
  ·rw [e] at hk
   simp [Value.ownBlock] at hk
   subst hk
   intro e'
   subst e'
   exact hb.ne_ (show Blk w b' 5 cur from hh) ht rfl
 by_cases hle : n <= m
 ·have hd : decide ((m : Int) < (n : Int)) = false := decide_eq_false (by omega)
  have hd' : decide (m < n) = false := decide_eq_false (by omega)
  have hsl := x4V D m c n (by omega) hD
  have hfin : ResizeTo w g t cs D m c base bs n (.returned (.tuple #[])) (w.setCell ⟨g, 0, none⟩ (.slice D n c)) := by
   refine ⟨rfl, D, c, HB.out.set_ 0 _, ?_, (Only.refl _ _).setCell (.inl (by simp)) _, .inl rfl⟩
   have h1 := xMY HO.out hle
   have h2 : resizeB bs n = bs.take n := by simp [resizeB, show n - bs.length = 0 by omega]
   rw [h2]
   exact x05 h1 fun k hk => Below.heap_setCell _ _ _ _ (HR.out k (by have := x00.1 hk; cases D <;> simp [Value.ownBlock] at this ⊢ <;> exact this))
  have HFIN := kH hfin
  clear hb ho h0 hfin
  go_enter Tryz.func170, Tryz.ntmps170
  go_wp2
  refine bodyPost_end (results_none rfl _ _ _) rfl ?_
  exact HFIN.out
 ·have hd : decide ((m : Int) < (n : Int)) = true := decide_eq_true (by omega)
  have hd' : decide (m < n) = true := decide_eq_true (by omega)
  have hwd : IntKind.i64.wrap ((n : Int) - (m : Int)) = ((n - m : Nat) : Int) := by rw [IntKind.wrap_i64]; omega
  obtain ⟨v', w1, hrun, hown1, hg1, hv1⟩ := xBS (w := w.drew) (k := n - m) HO.out (by omega) (by omega) hbase 35
  rw [show m + (n - m) = n by omega] at hown1
  have hz : u8s bs ++ List.replicate (n - m) (Value.int .u8 0) = u8s (resizeB bs n) := by
   simp [resizeB, u8s, u8, hl, List.take_of_length_le (show bs.length <= n by omega)]
  rw [hz] at hown1
  have hb1 : Blk w1 g t cs := HB.out.drew.grown hg1 (fun e => HR.out g e.symm rfl)
  have hO1 : Own w1 base v' n (resizeB bs n) := hown1
  obtain ⟨D1, c1, rfl⟩ : ∃ D1 c1, v' = .slice D1 n c1 := by
   rcases hown1.2 with ⟨e, e0⟩ | ⟨b', cap, cur, e, _⟩
   ·exact ⟨none, 0, by rw [e, e0]⟩
   ·exact ⟨_, cap, e⟩
  obtain ⟨-, -, hnc1, hD1⟩ := x22 hO1
  have hsl := x4V D1 n c1 n hnc1 hD1
  have hon : Only (g :: rowOf (.slice D m c)) w w1 := by
   refine (show Only (g :: rowOf (.slice D m c)) w w.drew from ⟨rfl, rfl, rfl, Nat.le_refl _, fun _ _ _ => rfl⟩).grown hg1 (fun j hj => .inl (by simp [x00, hj]))
  have hne1 : ∀ b, (Value.slice D1 n c1).ownBlock = some b -> b ≠ g := fun b hk => by
   rcases hv1 with e | e
   ·exact HR.out b (e ▸ hk)
   ·rw [hk] at e
    injection e with e
    have := HB.out.lt
    have e2 : b = w.heap.size := e
    omega
  have hfin : ResizeTo w g t cs D m c base bs n (.returned (.tuple #[])) ((w1.setCell ⟨g, 0, none⟩ (.slice D1 n c1)).setCell ⟨g, 0, none⟩ (.slice D1 n c1)) := by
   have hb2 := (hb1.set_ 0 (.slice D1 n c1)).set_ 0 (.slice D1 n c1)
   refine ⟨rfl, D1, c1, ?_, ?_, (hon.setCell (.inl (by simp)) _).setCell (.inl (by simp)) _, ?_⟩
   ·simpa using hb2
   ·exact x05 (x05 hO1 fun k hk => Below.heap_setCell _ _ _ _ (hne1 k (x00.1 hk))) fun k hk => Below.heap_setCell _ _ _ _ (hne1 k (x00.1 hk))
   ·rcases hv1 with e | e
    ·rcases hD1 with rfl | ⟨b, rfl⟩
     ·rcases hD with rfl | ⟨b2, rfl⟩
      ·exact .inl rfl
      ·simp [Value.ownBlock] at e
     ·rcases hD with rfl | ⟨b2, rfl⟩
      ·simp [Value.ownBlock] at e
      ·simp [Value.ownBlock] at e
       exact .inl (by rw [e])
    ·rcases hD1 with rfl | ⟨b, rfl⟩
     ·simp [Value.ownBlock] at e
     ·simp [Value.ownBlock] at e
      exact .inr ⟨b, rfl, by omega⟩
  have HFIN := kH hfin
  have HB1 := kH hb1
  have HRUN := kH hrun
  have hS : (Blk w.drew g t cs) := HB.out.drew
  have HC0 : Hid (∀ w', Blk w' g t cs -> w'.cell? ⟨g, 0, none⟩ = some (.slice D m c)) := kH fun w' h => by rw [h.cell]; exact h0
  clear hb ho hfin hb1 hrun hown1 hg1 hO1 hon hne1 hv1 hz
  go_enter Tryz.func170, Tryz.ntmps170
  go_upto_region 1 with (fail)
  refine x09 (fun w' => Blk w' g t cs) 15 (by kernel_rfl) ?_
  refine tL (i := 0) (v := .pointer (some ⟨g, 0, none⟩)) rfl rfl (by kernel_rfl) (by rfl) (fun w hw => by kernel_rfl) hS ?_
  simp only [Act.put, nB, nC, nD, nE, nF, nG]
  refine tL (i := 1) (v := .pointer (some ⟨g, 0, none⟩)) rfl rfl (by kernel_rfl) (by rfl) (fun w hw => by kernel_rfl) hS ?_
  simp only [Act.put, nB, nC, nD, nE, nF, nG]
  refine tL (i := 2) (v := .pointer (some ⟨g, 0, none⟩)) rfl rfl (by kernel_rfl) (by rfl) (fun w hw => by go_simp) hS ?_
  simp only [Act.put, nB, nC, nD, nE, nF, nG]
  refine tL (i := 3) (v := .pointer (some ⟨g, 0, none⟩)) rfl rfl (by kernel_rfl) (by rfl) (fun w hw => by kernel_rfl) hS ?_
  simp only [Act.put, nB, nC, nD, nE, nF, nG]
  refine tL (i := 4) (v := .slice D m c) rfl rfl (by kernel_rfl) (by rfl) (fun w hw => by have q := HC0.out w hw; go_simp) hS ?_
  simp only [Act.put, nB, nC, nD, nE, nF, nG]
  refine tL (i := 5) (v := .int .i64 (n : Int)) rfl rfl (by kernel_rfl) (by rfl) (fun w hw => by kernel_rfl) hS ?_
  simp only [Act.put, nB, nC, nD, nE, nF, nG]
  refine tL (i := 6) (v := .pointer (some ⟨g, 0, none⟩)) rfl rfl (by kernel_rfl) (by rfl) (fun w hw => by kernel_rfl) hS ?_
  simp only [Act.put, nB, nC, nD, nE, nF, nG]
  refine tL (i := 7) (v := .pointer (some ⟨g, 0, none⟩)) rfl rfl (by kernel_rfl) (by rfl) (fun w hw => by go_simp) hS ?_
  simp only [Act.put, nB, nC, nD, nE, nF, nG]
  refine tL (i := 8) (v := .pointer (some ⟨g, 0, none⟩)) rfl rfl (by kernel_rfl) (by rfl) (fun w hw => by kernel_rfl) hS ?_
  simp only [Act.put, nB, nC, nD, nE, nF, nG]
  refine tL (i := 9) (v := .slice D m c) rfl rfl (by kernel_rfl) (by rfl) (fun w hw => by have q := HC0.out w hw; go_simp) hS ?_
  simp only [Act.put, nB, nC, nD, nE, nF, nG]
  refine tL (i := 10) (v := .int .i64 (m : Int)) rfl rfl (by kernel_rfl) (by rfl) (fun w hw => by go_simp) hS ?_
  simp only [Act.put, nB, nC, nD, nE, nF, nG]
  refine tL (i := 11) (v := .int .i64 ((n - m : Nat) : Int)) rfl rfl (by kernel_rfl) (by rfl) (fun w hw => by go_simp) hS ?_
  simp only [Act.put, nB, nC, nD, nE, nF, nG]
  refine x01 (j := 12) (by kernel_rfl) rfl (by rfl) ?_
  simp only [Act.put, nB, nC, nD, nE, nF, nG]
  refine Lib.wp_append_run w.drew (.tmp 15) (.tmp 22) 35 3 rfl (.slice D m c) (.int .i64 ((n - m : Nat) : Int)) rfl rfl (.slice D1 n c1) w1 HRUN.out ?_
  refine ⟨HB1.out, ?_⟩
  simp only [Act.put, nB, nC, nD, nE, nF, nG]
  refine x01 (j := 13) (by kernel_rfl) rfl (by rfl) ?_
  simp only [Act.put, nB, nC, nD, nE, nF, nG]
  refine x0B (v := .pointer (some ⟨g, 0, none⟩)) (w' := w1) (by go_simp) ⟨HB1.out, ?_⟩
  simp only [Act.put, nB, nC, nD, nE, nF, nG]
  refine x01 (j := 14) (by kernel_rfl) rfl (by rfl) ?_
  simp only [Act.put, nB, nC, nD, nE, nF, nG]
  refine x0B (v := .pointer (some ⟨g, 0, none⟩)) (w' := w1) (by kernel_rfl) ⟨HB1.out, ?_⟩
  simp only [Act.put, nB, nC, nD, nE, nF, nG]
  refine x1V (by kernel_rfl) rfl (by rfl) (by kernel_rfl) ?_
  simp only [Act.put, nB, nC, nD, nE, nF, nG]
  refine x2L 35 (.tmp 25) (.tmp 23) (by rfl) g 0 t cs (.slice D1 n c1) (by rfl) (by rfl) HB1.out (by omega) (by kernel_rfl) rfl ?_
  refine NoPanic.normal ?_
  have q1 : (w1.setCell ⟨g, 0, none⟩ (.slice D1 n c1)).cell? ⟨g, 0, none⟩ = some (.slice D1 n c1) := by
   rw [(HB1.out.set_ 0 _).cell, Array.getElem?_setIfInBounds_self_of_lt (by omega)]
  have f1 : (w1.setCell ⟨g, 0, none⟩ (.slice D1 n c1)).frozen? ⟨g, 0, none⟩ = false := (HB1.out.set_ 0 _).frozen 0
  have HW := kH (show ∃ W, W = w1.setCell ⟨g, 0, none⟩ (.slice D1 n c1) from ⟨_, rfl⟩)
  generalize w1.setCell ⟨g, 0, none⟩ (.slice D1 n c1) = W at *
  go_wp2
  refine bodyPost_end (results_none rfl _ _ _) rfl ?_
  exact HFIN.out
end
section
open Go.RowKit Go.BigFrame
theorem x68 (A : Option Addr) (m c k : Nat) (hk : k <= m) (w : World) : (Instr.slice 35 (.slice A m c) (some (.int .i64 k)) none none).run Tryz.prog w = .ok (.slice (if c = k then A else A.map (·.add (k * 1))) (m - k) (c - k)) w := by
 have hsz : ∀ w, (sizeOf (Tryz.prog.elem 35)).run Tryz.prog w = .ok 1 w := fun w => by kernel_rfl
 rw [run_slice_l w 35 A m c (by kernel_rfl) .i64 k (by omega) (by omega), hsz]
 simp only [Result.andThen, sliced, Int.toNat_natCast]
theorem xC4 (A : Option Addr) (m c n : Nat) (h : n <= c) (w : World) : (Instr.slice 35 (.slice A m c) none (some (.int .i64 (n : Int))) none).run Tryz.prog w = .ok (.slice (if c = 0 then A else A.map (·.add 0)) n c) w := by
 have hsz : ∀ w, (sizeOf (Tryz.prog.elem 35)).run Tryz.prog w = .ok 1 w := fun w => by kernel_rfl
 rw [run_slice_h w 35 A m c (by kernel_rfl) .i64 (n : Int) (by omega) (by omega), hsz]
 simp [Result.andThen, sliced]
def partA (m at_ : Nat) : Nat := min at_ m
def partK (m at_ n : Nat) : Nat := min n (m - min at_ m)
def partV (D : Option Addr) (m c at_ n : Nat) : Value :=
  .slice (if c - partA m at_ = 0 then (if c = partA m at_ then D else D.map (·.add (partA m at_ * 1))) else (if c = partA m at_ then D else D.map (·.add (partA m at_ * 1))).map (·.add 0)) (partK m at_ n) (c - partA m at_)
set_option maxHeartbeats 4000000 in
theorem xDT {w : World} {g m c : Nat} {D : Option Addr} (h0 : w.cell? ⟨g, 0, none⟩ = some (.slice D m c)) (hmc : m <= c) (hm : m <= 1000000) (at_ n : Nat) (ha : at_ <= 9223372036854775807) (hn : n <= 9223372036854775807) :
    Calls Tryz.prog 169 #[.pointer (some ⟨g, 0, none⟩), .int .i64 (at_ : Int), .int .i64 (n : Int)] w fun e w' => e = .returned (partV D m c at_ n) /\ Below w.heap.size w w' := by
  have key : ∀ (a k : Nat), a = partA m at_ -> k = partK m at_ n -> a <= m -> k <= m - a -> ∃ A1 A2 : Option Addr, partV D m c at_ n = .slice A2 k (c - a) /\ (∀ w : World, (Instr.slice 35 (.slice D m c) (some (.int .i64 (a : Int))) none none).run Tryz.prog w = .ok (.slice A1 (m - a) (c - a)) w) ∧
      ∀ (w : World), (Instr.slice 35 (.slice A1 (m - a) (c - a)) none (some (.int .i64 (k : Int))) none).run Tryz.prog w = .ok (.slice A2 k (c - a)) w := fun a k ea ek h1 h2 => ⟨_, _, by unfold partV; rw [<- ea, <- ek], fun w => x68 D m c a h1 w, fun w => by
        rw [xC4 _ (m - a) (c - a) k (by omega) w]⟩
  by_cases h1 : at_ <= m
  · have hc1 : decide ((at_ : Int) <= (m : Int)) = true := decide_eq_true (by omega)
    by_cases h2 : n <= m - at_
    · obtain ⟨A1, A2, hv, k1, k2⟩ := key at_ n (by unfold partA; omega) (by unfold partK; omega) h1 h2
      rw [hv]
      have hc2 : decide ((n : Int) <= ((m - at_ : Nat) : Int)) = true := decide_eq_true (by omega)
      have hlt : n <= 1000000 := by omega
      clear key hv
      go_enter Tryz.func169, Tryz.ntmps169
      go_wp2
      go_quiet (fail)
      go_wp2
      go_ret
      exact ⟨rfl, x08 (Below.refl _ _) _⟩
    · obtain ⟨A1, A2, hv, k1, k2⟩ := key at_ (m - at_) (by unfold partA; omega) (by unfold partK; omega) h1 (Nat.le_refl _)
      rw [hv]
      have hc2 : decide ((n : Int) <= ((m - at_ : Nat) : Int)) = false := decide_eq_false (by omega)
      have hlt : at_ <= 1000000 := by omega
      clear key hv
      go_enter Tryz.func169, Tryz.ntmps169
      go_wp2
      go_quiet (fail)
      go_wp2
      go_ret
      exact ⟨rfl, x08 (Below.refl _ _) _⟩
  · have hc1 : decide ((at_ : Int) <= (m : Int)) = false := decide_eq_false (by omega)
    have hmm : m - m = 0 := by omega
    by_cases h2 : n = 0
    · subst h2
      obtain ⟨A1, A2, hv, k1, k2⟩ := key m 0 (by unfold partA; omega) (by unfold partK; omega) (Nat.le_refl _) (Nat.zero_le _)
      rw [hv]
      rw [hmm] at k1 k2
      have k3 : ∀ w : World, (Instr.slice 35 (.slice A1 0 (c - m)) none (some (.int .i64 0)) none).run Tryz.prog w = .ok (.slice A2 0 (c - m)) w := k2
      have hz : (0 : Int) <= 0 := by omega
      clear key hv
      go_enter Tryz.func169, Tryz.ntmps169
      go_wp2
      go_quiet (fail)
      go_wp2
      go_ret
      exact ⟨rfl, x08 (Below.refl _ _) _⟩
    · have hpos : 0 < n := by omega
      obtain ⟨A1, A2, hv, k1, k2⟩ := key m 0 (by unfold partA; omega) (by unfold partK; omega) (Nat.le_refl _) (Nat.zero_le _)
      rw [hv]
      rw [hmm] at k1 k2
      have k3 : ∀ w : World, (Instr.slice 35 (.slice A1 0 (c - m)) none (some (.int .i64 0)) none).run Tryz.prog w = .ok (.slice A2 0 (c - m)) w := k2
      have hc2 : decide ((n : Int) <= 0) = false := decide_eq_false (by omega)
      clear key hv
      go_enter Tryz.func169, Tryz.ntmps169
      go_wp2
      go_quiet (fail)
      go_wp2
      go_ret
      exact ⟨rfl, x08 (Below.refl _ _) _⟩
end
section
open Go.RowKit Go.BigFrame
def writeB (bs : List Nat) (at_ : Nat) (nb : List Nat) : List Nat :=
  if nb.length = 0 then bs else (resizeB bs (max bs.length (at_ + nb.length))).take at_ ++ nb ++ (resizeB bs (max bs.length (at_ + nb.length))).drop (at_ + nb.length)
theorem x5O {cs : Array Value} {i : Nat} {v : Value} (h : cs[i]? = some v) : cs.setIfInBounds i v = cs := by
 apply Array.ext_getElem?
 intro j
 rw [Array.getElem?_setIfInBounds]
 split
 ·rename_i e
  subst e
  have hl := (Array.getElem?_eq_some_iff.1 h).1
  rw [if_pos hl, h]
 ·rfl
theorem xD4 {w : World} {base b n c at_ : Nat} {R nb : List Nat} (h : Own w base (.slice (some ⟨b, 0, none⟩) n c) n R) (hk : at_ + nb.length <= n) : ∃ cur : Array Value, Blk w b 5 cur /\ at_ + nb.length <= cur.size ∧
  Own (w.setRow b (cur.toList.take at_ ++ u8s nb ++ cur.toList.drop (at_ + (u8s nb).length)).toArray) base (.slice (some ⟨b, 0, none⟩) n c) n (R.take at_ ++ nb ++ R.drop (at_ + nb.length)) /\ Only [b] w (w.setRow b (cur.toList.take at_ ++ u8s nb ++ cur.toList.drop (at_ + (u8s nb).length)).toArray) := by
 obtain ⟨-, hl, -, -⟩ := x22 h
 rcases h.2 with ⟨e, h0⟩ | ⟨b', cap, cur, e, hb, hh, h1, h2, h3, h4⟩
 ·cases e
 ·injection e with e1 e2 e3
  injection e1 with e1
  injection e1 with e1
  subst e1 e3
  refine ⟨cur, hh, by omega, ⟨?_, .inr ⟨b, c, _, rfl, hb, setRow_heap w b cur _ 5 _ hh, h1, h2, ?_, ?_⟩⟩, ⟨rfl, rfl, rfl, by simp [World.setRow], fun k _ hk => setRow_other w b k _ (fun e => hk (by simp [e]))⟩⟩
  ·rw [x0C]
   simp
   omega
  ·simp [x0C]
   omega
  ·have hcl : cur.toList.length = c := by simp; omega
   have h4' : cur.toList.take n = u8s R := by simpa using h4
   apply List.ext_getElem?
   intro j
   have hR : ∀ j, j < n -> cur.toList[j]? = (u8s R)[j]? := fun j hj => by rw [<- h4', List.getElem?_take, if_pos hj]
   have hu : u8s (R.take at_ ++ nb ++ R.drop (at_ + nb.length)) = (u8s R).take at_ ++ u8s nb ++ (u8s R).drop (at_ + nb.length) := by simp [u8s, List.map_take, List.map_drop]
   rw [hu, Nat.mul_one, List.getElem?_take]
   have hul : (u8s R).length = n := by rw [x0C]; exact hl
   by_cases hj : j < n
   ·rw [if_pos hj]
    simp only [List.toList_toArray, List.getElem?_append, List.length_append, List.length_take, List.getElem?_take, List.getElem?_drop, x0C]
    rw [show min at_ cur.toList.length = at_ by omega, show min at_ R.length = at_ by omega]
    by_cases h5 : j < at_
    ·rw [if_pos (by omega), if_pos h5, if_pos h5, if_pos (by omega), if_pos h5, if_pos h5]
     exact hR j hj
    ·by_cases h6 : j < at_ + nb.length
     ·rw [if_pos (by omega), if_neg h5, if_pos (by omega), if_neg h5]
     ·rw [if_neg (by omega), if_neg (by omega)]
      rw [show at_ + nb.length + (j - (at_ + nb.length)) = j by omega]
      exact hR j hj
   ·rw [if_neg hj, List.getElem?_eq_none]
    simp [x0C]
    omega
theorem Bytes.only_ {w w' : World} {B n : Nat} {A : Option Addr} {bs F : List Nat} (h : Bytes w B A n bs) (ho : Only F w w') (ha : ∀ a, A = some a -> 0 < n -> a.block ∉ F) : Bytes w' B A n bs :=
 ⟨⟨h.1.1, fun hn => by
  obtain ⟨ad, e, hB, hc⟩ := h.1.2 hn
  exact ⟨ad, e, hB, fun j u hu => (ho.cell (World.block_lt_of_cell? w _ (hc j u hu)) (by rw [x0L]; exact ha ad e hn)).trans (hc j u hu)⟩⟩, h.2⟩
def WriteTo (w : World) (g : Nat) (t : TypeId) (cs : Array Value) (D : Option Addr) (m c base : Nat) (bs : List Nat) (at_ : Nat) (nb : List Nat) (e : Ending) (w' : World) : Prop :=
  e = .returned (.tuple #[]) /\ ∃ D' n' c', Blk w' g t (cs.setIfInBounds 0 (.slice D' n' c')) /\ Own w' base (.slice D' n' c') n' (writeB bs at_ nb) /\ Only (g :: rowOf (.slice D m c)) w w' /\ (D' = D ∨ ∃ b, D' = some ⟨b, 0, none⟩ /\ w.heap.size <= b)
set_option maxHeartbeats 4000000 in
theorem xEV {w : World} {g base m c at_ B c2 : Nat} {t : TypeId} {cs : Array Value} {D A2 : Option Addr} {bs nb : List Nat} (hb : Blk w g t cs) (ht : t ≠ 5) (h0 : cs[0]? = some (.slice D m c)) (ho : Own w base (.slice D m c) m bs) (hbase : base <= w.heap.size)
    (hB : Bytes w B A2 nb.length nb) (hBl : B <= w.heap.size) (hfar : ∀ ad, A2 = some ad -> ad.block ≠ g /\ ad.block ∉ rowOf (.slice D m c)) (hat : at_ + nb.length <= 1000000) (hm : m <= 1000000) :
    Calls Tryz.prog 168 #[.pointer (some ⟨g, 0, none⟩), .int .i64 (at_ : Int), .slice A2 nb.length c2] w (WriteTo w g t cs D m c base bs at_ nb) := by
  have q0 : w.cell? ⟨g, 0, none⟩ = some (.slice D m c) := by rw [hb.cell]; exact h0
  obtain ⟨-, hl, hmc, hD⟩ := x22 ho
  by_cases hk : nb.length = 0
  · have hfin : WriteTo w g t cs D m c base bs at_ nb (.returned (.tuple #[])) w := ⟨rfl, D, m, c, by rw [x5O h0]; exact hb, by unfold writeB; rw [if_pos hk]; exact ho, Only.refl _ _, .inl rfl⟩
    have HFIN := kH hfin
    have hkb : ((nb.length : Int) == 0) = true := by simp [hk]
    have HK := kH hk
    clear hb h0 ho hB hfin hk
    go_enter Tryz.func168, Tryz.ntmps168
    go_wp2
    refine bodyPost_end (results_none rfl _ _ _) rfl ?_
    exact HFIN.out
  · obtain ⟨N, hN⟩ : ∃ N, N = max bs.length (at_ + nb.length) := ⟨_, rfl⟩
    have HRS := kH (x9U (n := N) hb ht h0 ho hbase (by omega) hm)
    have hwa : IntKind.i64.wrap ((at_ : Int) + (nb.length : Int)) = ((at_ + nb.length : Nat) : Int) := by rw [IntKind.wrap_i64]; omega
    have hkb : ((nb.length : Int) == 0) = false := beq_eq_false_iff_ne.2 (by omega)
    have hs0 : cs.size ≠ 0 := fun e => by rw [Array.getElem?_eq_none (by omega)] at h0; cases h0
    have HB := kH hB
    have HFAR := kH hfar
    have HKN := kH hk
    have HNN := kH hN
    have HGL := kH hb.lt
    clear hb h0 ho hB hfar
    have tail : ∀ (w1 : World), ResizeTo w g t cs D m c base bs N (.returned (.tuple #[])) w1 -> ∃ (b1 c1 : Nat) (W : World), w1.cell? ⟨g, 0, none⟩ = some (.slice (some ⟨b1, 0, none⟩) N c1) ∧
        (Instr.slice 35 (.slice (some ⟨b1, 0, none⟩) N c1) (some (.int .i64 (at_ : Int))) none none).run Tryz.prog w1 = .ok (.slice (some ⟨b1, at_, none⟩) (N - at_) (c1 - at_)) w1 ∧
        (Builtin.copy_ #[35, 35] 3 #[.slice (some ⟨b1, at_, none⟩) (N - at_) (c1 - at_), .slice A2 nb.length c2]).run Tryz.prog w1 = .ok (.int .i64 (nb.length : Int)) W /\ WriteTo w g t cs D m c base bs at_ nb (.returned (.tuple #[])) W := by
      rintro w1 ⟨-, D1, c1, hb1, ho1, hon, hnew⟩
      have hNe := HNN.out
      obtain ⟨-, hl1, hnc, hD1⟩ := x22 ho1
      obtain ⟨b1, rfl⟩ : ∃ b1, D1 = some ⟨b1, 0, none⟩ := by
        rcases hD1 with rfl | h
        · rcases ho1.2 with ⟨e, e0⟩ | ⟨b', _, _, e, _⟩
          · omega
          · cases e
        · exact h
      have hB1 : Bytes w1 w1.heap.size A2 nb.length nb := (HB.out.only_ hon (fun ad hA hpos => by have := HFAR.out ad hA; simp; exact this)).more (Nat.le_trans hBl hon.size)
      obtain ⟨a2, rfl⟩ : ∃ a2, A2 = some a2 := by
        obtain ⟨ad, e, _⟩ := HB.out.1.2 (by omega)
        exact ⟨ad, e⟩
      obtain ⟨cur, hcur, hfit, hown2, hon2⟩ := xD4 (at_ := at_) (nb := nb) ho1 (by omega)
      have hcp := run_copy_row (P := Tryz.prog) w1 35 35 3 5 b1 at_ (N - at_) (c1 - at_) a2 nb.length c2 cur 5 (u8s nb) Tryz.underlying35 (by kernel_rfl) hcur (by rw [x0C]; exact (Nat.min_eq_left (by omega)).symm) (fun j u hu => by
        obtain ⟨ad, e, _, hc⟩ := hB1.1.2 (by omega)
        injection e with e
        subst e
        exact hc j u hu) (by rw [x0C]; exact hfit) (x1R _)
      have hne : g ≠ b1 := hb1.ne_ hcur ht
      refine ⟨b1, c1, _, ?_, ?_, ?_, rfl, some ⟨b1, 0, none⟩, N, c1, hb1.of (hon2.block g hb1.lt (by simp; exact hne)), ?_, hon.trans hon2 (fun k hk => by
        simp at hk
        subst hk
        rcases hnew with e | ⟨b2, e, hb2⟩
        · left; simp [x00, <- e, Value.ownBlock]
        · injection e with e; injection e with e; subst e; exact .inr hb2), hnew⟩
      · rw [hb1.cell, Array.getElem?_setIfInBounds_self_of_lt (by omega)]
      · rw [x68 (some ⟨b1, 0, none⟩) N c1 at_ (by omega), if_neg (by omega), Option.map_some, Nat.mul_one, x15]
      · rw [hcp, x0C]
        rfl
      · unfold writeB
        rw [if_neg HKN.out, <- hNe]
        exact hown2
    have HTL := kH tail
    clear tail
    by_cases hmx : at_ + nb.length <= m
    · have hNm : N = m := by omega
      have hd : decide (((at_ + nb.length : Nat) : Int) <= (m : Int)) = true := decide_eq_true (by omega)
      have hd2 : decide ((m : Int) < ((at_ + nb.length : Nat) : Int)) = false := decide_eq_false (by omega)
      subst hNm
      clear hN
      generalize hak : at_ + nb.length = ak at *
      go_enter Tryz.func168, Tryz.ntmps168
      go_wp2_with fail
      refine HRS.out.mono ?_
      rintro e w1 hr
      obtain rfl := hr.1
      obtain ⟨b1, c1, W, x0, x1, x2, hfin⟩ := HTL.out w1 hr
      have HFIN := kH hfin
      clear hr hfin HTL HRS
      go_wp2
      refine bodyPost_end (results_none rfl _ _ _) rfl ?_
      exact HFIN.out
    · have hNm : N = at_ + nb.length := by omega
      have hd : decide (((at_ + nb.length : Nat) : Int) <= (m : Int)) = false := decide_eq_false (by omega)
      have hd2 : decide ((m : Int) < ((at_ + nb.length : Nat) : Int)) = true := decide_eq_true (by omega)
      subst hNm
      clear hN
      generalize hak : at_ + nb.length = ak at *
      go_enter Tryz.func168, Tryz.ntmps168
      go_wp2_with fail
      refine HRS.out.mono ?_
      rintro e w1 hr
      obtain rfl := hr.1
      obtain ⟨b1, c1, W, x0, x1, x2, hfin⟩ := HTL.out w1 hr
      have HFIN := kH hfin
      clear hr hfin HTL HRS
      go_wp2
      refine bodyPost_end (results_none rfl _ _ _) rfl ?_
      exact HFIN.out
end
section
open Go.RowKit Go.BigFrame
def keyB (bs : List Nat) : Key := bs.map UInt8.ofNat
theorem x83 (bs : List Nat) : (strOf bs).data.toList = bs.map UInt8.ofNat := by
  simp [strOf, strOfNums]
theorem x16 (bs : List Nat) : keyV (keyB bs) = .string (strOf bs) := by
 unfold keyV keyB
 congr 1
 rw [<- x83]
def stC (ms : Nat) (bl : List Bool) (gp : Nat) : Array Value := (Value.map (some ms) :: (bl.map Value.bool ++ [.pointer (some ⟨gp, 0, none⟩)])).toArray
structure StAt (w : World) (gs ms gp r c : Nat) (A : Option Addr) (bl fl : List Bool) (kv : KV) : Prop where
 blk : Blk w gs 122 (stC ms bl gp)
 len : bl.length = 8
 map : SMap Tryz.prog 9 w ms kv
 sp : SAt w gp r A c fl (cnt fl)
 ne : gp ≠ r
section
variable {w : World} {gs ms gp r c : Nat} {A : Option Addr} {bl fl : List Bool} {kv : KV}
theorem StAt.c0 (h : StAt w gs ms gp r c A bl fl kv) : w.cell? ⟨gs, 0, none⟩ = some (.map (some ms)) := by rw [h.blk.cell]; simp [stC]
theorem StAt.c9 (h : StAt w gs ms gp r c A bl fl kv) : w.cell? ⟨gs, 9, none⟩ = some (.pointer (some ⟨gp, 0, none⟩)) := by
 rw [h.blk.cell]
 simp only [stC, List.getElem?_toArray]
 rw [List.getElem?_cons_succ, List.getElem?_append_right (by simp [h.len])]
 simp [h.len]
theorem StAt.cb (h : StAt w gs ms gp r c A bl fl kv) {j : Nat} {b : Bool} (hj : bl[j]? = some b) : w.cell? ⟨gs, 1 + j, none⟩ = some (.bool b) := by
 have hl := (List.getElem?_eq_some_iff.1 hj).1
 rw [h.blk.cell]
 simp only [stC, List.getElem?_toArray]
 rw [Nat.add_comm, List.getElem?_cons_succ, List.getElem?_append_left (by simpa using hl)]
 simp [hj]
theorem x97 (h : StAt w gs ms gp r c A bl fl kv) (bs : List Nat) (hl : bs.length <= 1000000) :
  Calls Tryz.prog 75 #[.pointer (some ⟨gs, 0, none⟩), .string (strOf bs)] w fun e w' => e = .returned ((aget kv (keyB bs)).getD (.pointer none)) /\ w = w' := by
 have q0 := h.c0
 have hz : (zeroValue 147).run Tryz.prog w = .ok (.pointer none) w := by kernel_rfl
 have hlk := x34 (P := Tryz.prog) (t := 118) (et := 147) Tryz.underlying9 Tryz.underlying118 hz h.map (keyB bs) (by simp [keyB, maxLen]; omega)
 rw [x16] at hlk
 clear h
 generalize (aget kv (keyB bs)).getD (.pointer none) = v at *
 go_enter Tryz.func75, Tryz.ntmps75
 go_wp2
 go_ret
 exact ⟨rfl, rfl⟩
end
end
section
open Go.RowKit Go.BigFrame
def flags8 : List Bool := List.replicate 8 false
theorem xIN (n : Int) (h : n < 0 ∨ 65536 < n) (w : World) : Calls Tryz.prog 52 #[.int .i64 n] w fun e w' => e = .returned (.tuple #[.pointer none, errV 1]) /\ w = w' := by
 have HN := kH (xML n h w)
 simp only [errV] at HN ⊢
 go_enter Tryz.func52, Tryz.ntmps52
 go_wp2_with fail
 refine HN.out.mono ?_
 rintro e w' ⟨rfl, rfl⟩
 go_wp2
 go_ret2
 exact ⟨rfl, rfl⟩
def NewSt (w : World) (fl : List Bool) (p : Value) (w' : World) : Prop := ∃ gs ms gp r c A, p = .pointer (some ⟨gs, 0, none⟩) /\ StAt w' gs ms gp r c A flags8 fl [] /\ w.heap.size <= gs /\ w.heap.size <= ms /\ w.heap.size <= gp /\ w.heap.size <= r /\ Below w.heap.size w w'
theorem xAS (n : Nat) (hn : n <= 65536) (w : World) : Calls Tryz.prog 52 #[.int .i64 n] w fun e w' => ∃ p, e = .returned (.tuple #[p, .nilIface]) /\ NewSt w (List.replicate n true) p w' := by
 have HN := kH (xLQ n hn w)
 have hmm := @run_makeMap Tryz.prog
 have hbd : ∀ (m gp : Nat) (w : World), (Instr.build 122 #[(0, .map (some m)), (2, .pointer (some ⟨gp, 0, none⟩))]).run Tryz.prog w = .ok (.agg (stC m flags8 gp)) w := fun m gp w => by kernel_rfl
 go_enter Tryz.func52, Tryz.ntmps52
 go_wp2_with fail
 refine HN.out.mono ?_
 rintro e w1 ⟨p, rfl, gp, r, A, c, rfl, hs, hne, hg, hr, hb⟩
 have m1 : SMap Tryz.prog 9 (w1.alloc (.map #[] 0)) w1.heap.size [] := SMap.new w1
 have K2 := Blk.new (w1.alloc (.map #[] 0)) 122 (stC w1.heap.size flags8 gp)
 have s1 : (w1.alloc (.map #[] 0)).heap.size = w1.heap.size + 1 := World.size_alloc _ _
 rw [s1] at K2
 have hz := hb.size
 have hb2 : Below w.heap.size w ((w1.alloc (.map #[] 0)).alloc (.cells (stC w1.heap.size flags8 gp) 122)) := (hb.alloc hz _).alloc (by rw [s1]; omega) _
 have hs2 : SAt ((w1.alloc (.map #[] 0)).alloc (.cells (stC w1.heap.size flags8 gp) 122)) gp r A c (List.replicate n true) (cnt (List.replicate n true)) := hs.of (by rw [Below.heap_alloc _ _ _ (by have := hs.blk.lt; rw [s1]; omega), Below.heap_alloc _ _ _ hs.blk.lt]) (fun t cs hx => by rw [Below.heap_alloc _ _ _ (by have := hx.lt; rw [s1]; omega), Below.heap_alloc _ _ _ hx.lt])
 have hm2 : SMap Tryz.prog 9 ((w1.alloc (.map #[] 0)).alloc (.cells (stC w1.heap.size flags8 gp) 122)) w1.heap.size [] := m1.of (Below.heap_alloc _ _ _ m1.lt)
 have HF := kH (show NewSt w (List.replicate n true) (.pointer (some ⟨w1.heap.size + 1, 0, none⟩)) ((w1.alloc (.map #[] 0)).alloc (.cells (stC w1.heap.size flags8 gp) 122)) from ⟨_, w1.heap.size, gp, r, c, A, rfl, ⟨K2, rfl, hm2, hs2, hne⟩, by omega, hz, hg, hr, hb2⟩)
 clear hs hne hg hr hb m1 K2 hb2 hs2 hm2 HN
 go_wp2
 go_ret2
 exact ⟨_, rfl, HF.out⟩
section
variable {w : World} {gs ms gp r c : Nat} {A : Option Addr} {bl fl : List Bool} {kv : KV}
theorem xHP (h : StAt w gs ms gp r c A bl fl kv) {j : Nat} (hj : j < 8) (hr : fl ≠ [] -> r ≠ gs) : StAt (w.setCell ⟨gs, 1 + j, none⟩ (.bool true)) gs ms gp r c A (bl.set j true) fl kv := by
 have hm : ms ≠ gs := h.map.ne_blk h.blk
 have hg : gp ≠ gs := h.sp.blk.ne_ h.blk (by decide)
 refine ⟨?_, by rw [List.length_set]; exact h.len, h.map.of (Below.heap_setCell _ _ _ _ hm), ⟨h.sp.blk.of (Below.heap_setCell _ _ _ _ hg), h.sp.cap, h.sp.lim, ?_⟩, h.ne⟩
 ·have := h.blk.set_ (1 + j) (.bool true)
  have e : (stC ms bl gp).setIfInBounds (1 + j) (.bool true) = stC ms (bl.set j true) gp := by
   have hl := h.len
   unfold stC
   rw [List.setIfInBounds_toArray, Nat.add_comm, List.set_cons_succ, List.set_append_left _ _ (by simp; omega), List.map_set]
  rwa [e] at this
 ·rcases h.sp.row with e | ⟨e, cs, hb, hc⟩
  ·exact .inl e
  ·exact .inr ⟨e, cs, hb.of (Below.heap_setCell _ _ _ _ (hb.ne_ h.blk (by decide))), hc⟩
def blockE (n : Int) : Value := if isClientB n then .nilIface else errV 1
def blockAt (bl : List Bool) (n : Int) : List Bool := if isClientB n then bl.set n.toNat true else bl
theorem block_any (h : StAt w gs ms gp r c A bl fl kv) (n : Int) : Calls Tryz.prog 17 #[.pointer (some ⟨gs, 0, none⟩), .int .i64 n] w fun e w' => e = .returned (blockE n) /\ StAt w' gs ms gp r c A (blockAt bl n) fl kv /\ Only [gs] w w' := by
  by_cases hc : isClientB n = true
  · obtain ⟨j, rfl, hj⟩ : ∃ j : Nat, n = j /\ j < 8 := by
      simp [isClientB] at hc
      exact ⟨n.toNat, by omega, by omega⟩
    have hx : ∃ b, bl[j]? = some b := ⟨_, List.getElem?_eq_getElem (by rw [h.len]; exact hj)⟩
    obtain ⟨b, hb⟩ := hx
    have q := h.cb hb
    have f := h.blk.frozen (1 + j)
    have hS : StAt (w.setCell ⟨gs, 1 + j, none⟩ (.bool true)) gs ms gp r c A (bl.set j true) fl kv := xHP h hj (fun hf => by
      rcases h.sp.row with e | ⟨_, cs, hb', _⟩
      · exact absurd e hf
      · exact hb'.ne_ h.blk (by decide))
    have HF := kH (kA hS (show Only [gs] w (w.setCell ⟨gs, 1 + j, none⟩ (.bool true)) from (Only.refl _ _).setCell (.inl (by simp)) _))
    have HI := kH (x2C (j : Int) w)
    have HC := kH hc
    have hj2 : (j : Int) < 8 := by omega
    clear h hS hb hc
    go_enter Tryz.func17, Tryz.ntmps17
    go_wp2_with fail
    refine HI.out.mono ?_
    rintro e w' ⟨rfl, rfl⟩
    rw [HC.out]
    clear HI
    go_wp2
    go_ret
    refine ⟨by unfold blockE; rw [if_pos HC.out]; rfl, ?_, HF.out.2⟩
    unfold blockAt
    rw [if_pos HC.out]
    exact HF.out.1
  · have hc' : isClientB n = false := by simpa using hc
    have HF := kH h
    have HI := kH (x2C n w)
    have HC := kH hc'
    clear h hc hc'
    go_enter Tryz.func17, Tryz.ntmps17
    go_wp2_with fail
    refine HI.out.mono ?_
    rintro e w' ⟨rfl, rfl⟩
    rw [HC.out]
    clear HI
    go_wp2
    go_ret
    refine ⟨by unfold blockE; rw [HC.out]; rfl, ?_, Only.refl _ _⟩
    unfold blockAt
    rw [HC.out]
    exact HF.out
theorem xEP (h : StAt w gs ms gp r c A bl fl kv) (n : Int) : Calls Tryz.prog 165 #[.pointer (some ⟨gs, 0, none⟩), .int .i64 n] w fun e w' => e = .returned (.bool (isClientB n && bl.getD n.toNat false)) /\ w = w' := by
  by_cases hc : isClientB n = true
  · obtain ⟨j, rfl, hj⟩ : ∃ j : Nat, n = j /\ j < 8 := by
      simp [isClientB] at hc
      exact ⟨n.toNat, by omega, by omega⟩
    obtain ⟨b, hb⟩ : ∃ b, bl[j]? = some b := ⟨_, List.getElem?_eq_getElem (by rw [h.len]; exact hj)⟩
    have q := h.cb hb
    have HI := kH (x2C (j : Int) w)
    have HC := kH hc
    have HB := kH hb
    have hj2 : (j : Int) < 8 := by omega
    clear h hb hc
    go_enter Tryz.func165, Tryz.ntmps165
    go_wp2_with fail
    refine HI.out.mono ?_
    rintro e w' ⟨rfl, rfl⟩
    rw [HC.out]
    clear HI
    go_wp2
    go_ret
    refine ⟨?_, rfl⟩
    rw [HC.out, Bool.true_and, Int.toNat_natCast, List.getD_eq_getElem?_getD, HB.out]
    rfl
  · have hc' : isClientB n = false := by simpa using hc
    have HI := kH (x2C n w)
    have HC := kH hc'
    clear h hc hc'
    go_enter Tryz.func165, Tryz.ntmps165
    go_wp2_with fail
    refine HI.out.mono ?_
    rintro e w' ⟨rfl, rfl⟩
    rw [HC.out]
    clear HI
    go_wp2
    go_ret
    refine ⟨?_, rfl⟩
    rw [HC.out]
    rfl
end
end
section
open Go.RowKit Go.BigFrame
def shedR : List (Nat × Nat) -> Nat -> List (Nat × Nat) × List (Nat × Nat)
 | r, 0 => (r, [])
 | [], _ + 1 => ([], [])
 | (x, y) :: r, n + 1 => if n + 1 < y then ((x, y - (n + 1)) :: r, [(x + (y - (n + 1)), n + 1)]) else ((shedR r (n + 1 - y)).1, (x, y) :: (shedR r (n + 1 - y)).2)
theorem x61 (r : List (Nat × Nat)) : shedR r 0 = (r, []) := by cases r <;> rfl
theorem x92 {x y n : Nat} {r : List (Nat × Nat)} (h0 : 0 < n) (h : n < y) : shedR ((x, y) :: r) n = ((x, y - n) :: r, [(x + (y - n), n)]) := by
 obtain ⟨k, rfl⟩ : ∃ k, n = k + 1 := ⟨n - 1, by omega⟩
 rw [shedR, if_pos h]
theorem x4Q {x y n : Nat} {r : List (Nat × Nat)} (h0 : 0 < n) (h : y <= n) : shedR ((x, y) :: r) n = ((shedR r (n - y)).1, (x, y) :: (shedR r (n - y)).2) := by
 obtain ⟨k, rfl⟩ : ∃ k, n = k + 1 := ⟨n - 1, by omega⟩
 rw [shedR, if_neg (by omega)]
theorem OwnE.relen {w : World} {base g c : Nat} {r : List (Int × Int)} {x y : Int} (h : OwnE w base (.slice (some ⟨g, 0, none⟩) (r ++ [(x, y)]).length c) (r ++ [(x, y)])) (z : Int) :
  OwnE (w.setCell ⟨g, r.length * 2 + 1, none⟩ (.int .i64 z)) base (.slice (some ⟨g, 0, none⟩) (r ++ [(x, z)]).length c) (r ++ [(x, z)]) /\ w.cell? ⟨g, r.length * 2, none⟩ = some (.int .i64 x) /\ w.cell? ⟨g, r.length * 2 + 1, none⟩ = some (.int .i64 y) /\ w.frozen? ⟨g, r.length * 2 + 1, none⟩ = false := by
 have e : ∀ u, extS (r ++ [(x, u)]) = extS r ++ [.int .i64 x, .int .i64 u] := fun u => by simp [extS, ext1]
 have hl := x63 r
 have h1 := (World.ownsRow.stored h (r.length * 2 + 1) (.int .i64 z)).1
 have h2 := World.ownsRow.cellAt h (r.length * 2 + 1) (by simp; omega)
 have h4 := World.ownsRow.cellAt h (r.length * 2) (by simp)
 have h3 := World.ownsRow.frozenAt h (r.length * 2 + 1)
 rw [e] at h1 h2 h4
 rw [List.set_append_right _ _ (by omega), hl, show r.length * 2 + 1 - r.length * 2 = 1 by omega] at h1
 rw [List.getElem?_append_right (by omega), hl, show r.length * 2 + 1 - r.length * 2 = 1 by omega] at h2
 rw [List.getElem?_append_right (by omega), hl, Nat.sub_self] at h4
 refine ⟨?_, h4, h2, h3⟩
 unfold OwnE
 rw [e]
 simpa using h1
theorem OwnE.init {w : World} {base g c : Nat} {r : List (Int × Int)} {e : Int × Int} (h : OwnE w base (.slice (some ⟨g, 0, none⟩) (r ++ [e]).length c) (r ++ [e])) : OwnE w base (.slice (some ⟨g, 0, none⟩) r.length c) r := by
 rcases h.2 with ⟨e1, h0⟩ | ⟨b, cap, cur, e1, hb, hh, h1, h2, h3, h4⟩
 ·cases e1
 ·injection e1 with a1 a2 a3
  injection a1 with a1
  injection a1 with a1
  subst a1 a3
  refine ⟨by rw [x63], .inr ⟨g, c, cur, rfl, hb, hh, by simp at h1; omega, h2, h3, ?_⟩⟩
  have e2 : extS (r ++ [e]) = extS r ++ ext1 e := by simp [extS]
  rw [e2] at h4
  have := congrArg (List.take (r.length * 2)) h4
  rw [List.take_take, List.take_left' (x63 r)] at this
  rw [<- this]
  congr 1
  simp
structure Shed (w wr : World) (g b c base : Nat) (t : TypeId) (cs : Array Value) (lv : Value) (r out : List (Nat × Nat)) (nn : Nat) : Prop where
 blk : Blk wr g t (cs.setIfInBounds 2 (.slice (some ⟨b, 0, none⟩) r.length c))
 ext : OwnE wr base (.slice (some ⟨b, 0, none⟩) r.length c) (natE r.reverse)
 own : OwnE wr w.heap.size lv (natE out)
 only : Only [g, b] w wr
theorem x67 (b n c i : Nat) (h : i <= c) (w : World) : (Instr.slice 135 (.slice (some ⟨b, 0, none⟩) n c) none (some (.int .i64 (i : Int))) none).run Tryz.prog w = .ok (.slice (some ⟨b, 0, none⟩) i c) w := by
 rw [x44 (some ⟨b, 0, none⟩) n c i h w]
 split <;> simp [Addr.add]
def ShedTo (w : World) (g b c base : Nat) (t : TypeId) (cs : Array Value) (es : List (Nat × Nat)) (n : Nat) (e : Ending) (w' : World) : Prop :=
  ∃ lv, e = .returned lv /\ Blk w' g t (cs.setIfInBounds 2 (.slice (some ⟨b, 0, none⟩) (shedR es.reverse n).1.length c)) /\ OwnE w' base (.slice (some ⟨b, 0, none⟩) (shedR es.reverse n).1.length c) (natE (shedR es.reverse n).1.reverse) /\ OwnE w' w.heap.size lv (natE (shedR es.reverse n).2) /\ Only [g, b] w w'
end
section
open Go.RowKit Go.BigFrame
theorem x1G {w : World} {o : Obj} {p : Addr} {v : Value} (h : w.cell? p = some v) : (w.alloc o).cell? p = some v := by
 rw [World.cell?_alloc_lt w o p (World.block_lt_of_cell? w p h)]
 exact h
theorem Shed.step {w wo w' : World} {g b c base nn k : Nat} {t : TypeId} {cs : Array Value} {lv v' : Value} {r' out : List (Nat × Nat)} {x y z p q : Nat} {o : Obj} (h : Shed w wo g b c base t cs lv ((x, y) :: r') out nn) (hbl : b < w.heap.size) (hgl : g < w.heap.size) (hbg : b ≠ g)
  (hnew : OwnE (wo.setCell ⟨b, k * 2 + 1, none⟩ (.int .i64 (z : Int))) base (.slice (some ⟨b, 0, none⟩) (natE r'.reverse ++ [((x : Int), (z : Int))]).length c) (natE r'.reverse ++ [((x : Int), (z : Int))]))
  (hg : (((wo.setCell ⟨b, k * 2 + 1, none⟩ (.int .i64 (z : Int))).drew).alloc o).grownBy w' lv.ownBlock) (hown : OwnE w' w.heap.size v' (natE out ++ [((p : Int), (q : Int))])) :
  (∀ j, Shed w w' g b c base t cs v' ((x, z) :: r') (out ++ [(p, q)]) j) /\ w'.cell? ⟨b, r'.length * 2, none⟩ = some (.int .i64 (x : Int)) /\ w'.cell? ⟨b, r'.length * 2 + 1, none⟩ = some (.int .i64 (z : Int)) := by
 have hs := h.only.size
 have hob : ∀ k2, lv.ownBlock = some k2 -> w.heap.size <= k2 := fun k2 hk2 => (World.ownsRow.lt h.own k2 hk2).1
 have hb' : some b ≠ lv.ownBlock := fun e => by have := hob b e.symm; omega
 have hg' : some g ≠ lv.ownBlock := fun e => by have := hob g e.symm; omega
 have hbw : w'.heap[b]? = (wo.setCell ⟨b, k * 2 + 1, none⟩ (.int .i64 (z : Int))).heap[b]? := by
  rw [hg.block b (by simp [World.alloc, World.setCell, World.drew]; omega) hb']
  exact Below.heap_alloc _ _ b (by simp [World.setCell, World.drew]; omega)
 have e1 : natE ((x, z) :: r').reverse = natE r'.reverse ++ [((x : Int), (z : Int))] := by simp [natE]
 have e2 : ((x, z) :: r').length = (natE r'.reverse ++ [((x : Int), (z : Int))]).length := by simp [natE]
 have hE : OwnE w' base (.slice (some ⟨b, 0, none⟩) (natE r'.reverse ++ [((x : Int), (z : Int))]).length c) (natE r'.reverse ++ [((x : Int), (z : Int))]) := x05 hnew fun k2 hk2 => by
  have e := x00.1 hk2
  injection e with e
  subst e
  exact hbw
 refine ⟨fun j => ⟨?_, by rw [e1, e2]; exact hE, ?_, ?_⟩, ?_⟩
 ·have h1 : Blk (wo.setCell ⟨b, k * 2 + 1, none⟩ (.int .i64 (z : Int))) g t (cs.setIfInBounds 2 (.slice (some ⟨b, 0, none⟩) ((x, y) :: r').length c)) := (Below.heap_setCell _ _ _ _ (Ne.symm hbg)).trans h.blk
  exact (h1.drew.alloc o).grown hg hg'
 ·simpa [natE] using hown
 ·refine Only.grown (Only.alloc ((h.only.setCell (.inl (by simp)) _).drew) o) hg (fun k2 hk2 => .inr (hob k2 hk2))
 ·have hr := hE.relen 0
  have e3 : (natE r'.reverse).length = r'.length := by simp [natE]
  rw [e3] at hr
  exact ⟨hr.2.1, hr.2.2.1⟩
theorem Shed.pop {w w' : World} {g b c base j : Nat} {t : TypeId} {cs : Array Value} {v' : Value} {r' out : List (Nat × Nat)} {x z : Nat} (h : Shed w w' g b c base t cs v' ((x, z) :: r') out j) (hbl : b < w.heap.size) (hgl : g < w.heap.size) (hbg : b ≠ g) (i : Nat) :
    Shed w (w'.setCell ⟨g, 2, none⟩ (.slice (some ⟨b, 0, none⟩) r'.length c)) g b c base t cs v' r' out i := by
  have hob : ∀ k2, v'.ownBlock = some k2 -> w.heap.size <= k2 := fun k2 hk2 => (World.ownsRow.lt h.own k2 hk2).1
  have e1 : natE ((x, z) :: r').reverse = natE r'.reverse ++ [((x : Int), (z : Int))] := by simp [natE]
  have e2 : ((x, z) :: r').length = (natE r'.reverse ++ [((x : Int), (z : Int))]).length := by simp [natE]
  have hE := h.ext
  rw [e1, e2] at hE
  have hI := hE.init
  rw [show (natE r'.reverse).length = r'.length by simp [natE]] at hI
  refine ⟨?_, ?_, ?_, h.only.setCell (.inl (by simp)) _⟩
  · have := h.blk.set_ 2 (.slice (some ⟨b, 0, none⟩) r'.length c)
    simpa using this
  · exact x05 hI fun k2 hk2 => by
      have e := x00.1 hk2
      injection e with e
      subst e
      exact Below.heap_setCell _ _ _ _ hbg
  · exact x05 h.own fun k2 hk2 => Below.heap_setCell _ _ _ _ (by have := hob k2 (x00.1 hk2); show k2 ≠ g; omega)
set_option maxHeartbeats 8000000 in
theorem xLE {w : World} {g b c base n : Nat} {t : TypeId} {cs : Array Value} {es : List (Nat × Nat)} (hb : Blk w g t cs) (ht : t ≠ 198) (h2 : cs[2]? = some (.slice (some ⟨b, 0, none⟩) es.length c)) (ho : OwnE w base (.slice (some ⟨b, 0, none⟩) es.length c) (natE es)) (hpos : ∀ e ∈ es, 1 <= e.2) (hn : n <= lens es) (hfit : ∀ e ∈ es, e.1 <= 1000000 /\ e.2 <= 1000000) (hl : es.length <= 1000000) (hnb : n <= 1000000) :
  Calls Tryz.prog 175 #[.pointer (some ⟨g, 0, none⟩), .int .i64 (n : Int)] w (ShedTo w g b c base t cs es n) := by
 have hbl : b < w.heap.size := (World.ownsRow.lt ho b rfl).2
 have hgl := hb.lt
 have hbg : b ≠ g := by
  obtain ⟨-, h | ⟨b', cap, cur, e, _, hh, _⟩⟩ := ho
  ·cases h.1
  ·injection e with e; injection e with e; injection e with e
   subst e
   exact fun e => (show Blk w b 198 cur from hh).ne_ hb (fun e' => ht e'.symm) e
 have h0 : Shed w w g b c base t cs (.slice none 0 0) es.reverse [] n := ⟨by rw [List.length_reverse, x5O h2]; exact hb, by rw [List.length_reverse, List.reverse_reverse]; exact ho, OwnE.nil _ _, Only.refl _ _⟩
 have hcs : 2 < cs.size := (Array.getElem?_eq_some_iff.1 h2).1
 have H0 := kH h0
 have HPS := kH (kA hpos (kA hn hfit))
 clear hb h2 ho h0 hpos hn hfit
 go_enter Tryz.func175, Tryz.ntmps175
 go_wp2
 go_loopw [1, 5] (fun nv lv wr => ∃ (nn : Nat) (r out : List (Nat × Nat)), nv = .int .i64 nn /\ nn <= lens r /\ nn <= n /\ (∀ e ∈ r, 1 <= e.2 /\ e.1 <= 1000000 /\ e.2 <= 1000000) /\ r.length <= es.length /\ out.length + r.length <= es.length + 1 /\ (out.length + r.length <= es.length ∨ nn = 0) /\ (shedR es.reverse n = ((shedR r nn).1, out ++ (shedR r nn).2)) /\ Shed w wr g b c base t cs lv r out nn) (fun nv _ _ => (intS nv).toNat)
 case atStart => exact ⟨n, es.reverse, [], rfl, by rw [show lens es.reverse = lens es from x4I es.reverse_perm]; exact HPS.out.2.1, Nat.le_refl _, fun e he => by have h := List.mem_reverse.1 he; exact ⟨HPS.out.1 e h, HPS.out.2.2 e h⟩, by simp, by simp, .inl (by simp), by simp, H0.out⟩
 case round =>
  obtain ⟨nn, r, out, rfl, hnl, hnn, hrr, hrl, hol, hol2, heq, hS⟩ := hrel
  obtain ⟨wo, hwo⟩ : ∃ wo, wo = wr := ⟨_, rfl⟩
  subst hwo
  obtain ⟨Al, cl, rfl, -⟩ := hS.own.form
  clear H0
  rcases Nat.eq_zero_or_pos nn with hn0 | hn0
  ·subst hn0
   rw [x61] at heq
   have HS := kH (kA hS heq)
   clear hS heq
   go_wp2
   go_ret
   have h := HS.out.1
   rw [List.append_nil] at HS
   refine ⟨_, rfl, ?_, ?_, ?_, h.only⟩
   ·rw [HS.out.2]; exact h.blk
   ·rw [HS.out.2]; exact h.ext
   ·rw [HS.out.2]; exact h.own
  ·have hd0 : decide ((0 : Int) < (nn : Int)) = true := decide_eq_true (by omega)
   match r, hnl, hrr, hrl, hol, hol2, heq, hS with
   | [], hnl, _, _, _, _, _, _ => exact absurd hnl (by simp [lens]; omega)
   | (x, y) :: r', hnl, hrr, hrl, hol, hol2, heq, hS =>
    have hxy := hrr (x, y) (by simp)
    have hext := hS.ext
    have hrev : natE ((x, y) :: r').reverse = natE r'.reverse ++ [((x : Int), (y : Int))] := by simp [natE]
    have hlr : (natE r'.reverse).length = r'.length := by simp [natE]
    have hl2 : ((x, y) :: r').length = (natE r'.reverse ++ [((x : Int), (y : Int))]).length := by simp [natE]
    rw [hrev, hl2] at hext
    obtain ⟨k, hk⟩ : ∃ k, k = r'.length := ⟨_, rfl⟩
    have hlens : lens ((x, y) :: r') = y + lens r' := by simp [lens]
    have q2 : wo.cell? ⟨g, 2, none⟩ = some (.slice (some ⟨b, 0, none⟩) (k + 1) c) := by rw [hS.blk.cell, Array.getElem?_setIfInBounds_self_of_lt hcs, hk]; rfl
    have f2 : wo.frozen? ⟨g, 2, none⟩ = false := hS.blk.frozen 2
    have hkl : k <= 1000000 := by simp at hrl; omega
    have hw1 : IntKind.i64.wrap (((k + 1 : Nat) : Int) - 1) = (k : Int) := by rw [IntKind.wrap_i64]; omega
    have hrr' : ∀ e ∈ r', 1 <= e.2 /\ e.1 <= 1000000 /\ e.2 <= 1000000 := fun e he => hrr e (by simp [he])
    have hkc : k + 1 <= c := by
     rcases hS.ext.2 with ⟨e, _⟩ | ⟨_, _, _, e, _, _, h1, _⟩
     ·cases e
     ·injection e with _ e1 e2; simp [natE] at e1 e2 h1; omega
    have HKK := kH hk
    by_cases hlt : nn < y
    ·have hmin : decide ((nn : Int) <= (y : Int)) = true := decide_eq_true (by omega)
     have hw2 : IntKind.i64.wrap ((y : Int) - (nn : Int)) = ((y - nn : Nat) : Int) := by rw [IntKind.wrap_i64]; omega
     have hw3 : IntKind.i64.wrap ((nn : Int) - (nn : Int)) = 0 := by rw [IntKind.wrap_i64]; omega
     have hw4 : IntKind.i64.wrap ((x : Int) + ((y - nn : Nat) : Int)) = ((x + (y - nn) : Nat) : Int) := by rw [IntKind.wrap_i64]; omega
     obtain ⟨hnew, c0, c1, f1⟩ := hext.relen ((y - nn : Nat) : Int)
     rw [hlr, <- hk] at hnew c0 c1 f1
     have HC8 : Hid ((wo.setCell ⟨b, k * 2 + 1, none⟩ (.int .i64 ((y - nn : Nat) : Int))).drew.cell? ⟨b, k * 2, none⟩ = some (.int .i64 (x : Int)) /\ (wo.setCell ⟨b, k * 2 + 1, none⟩ (.int .i64 ((y - nn : Nat) : Int))).drew.cell? ⟨b, k * 2 + 1, none⟩ = some (.int .i64 ((y - nn : Nat) : Int))) := kH (by
      have h := hnew.relen ((y - nn : Nat) : Int)
      rw [hlr, <- hk] at h
      exact ⟨h.2.1, h.2.2.1⟩)
     have hsz : w.heap.size <= wo.heap.size := hS.only.size
     have hob : ∀ k2, (Value.slice Al (natE out).length cl).ownBlock = some k2 -> w.heap.size <= k2 := fun k2 hk2 => (World.ownsRow.lt hS.own k2 hk2).1
     have hout1 : OwnE (wo.setCell ⟨b, k * 2 + 1, none⟩ (.int .i64 ((y - nn : Nat) : Int))) w.heap.size (.slice Al (natE out).length cl) (natE out) := x05 hS.own fun k2 hk2 => Below.heap_setCell _ _ _ _ (by have := hob k2 (x00.1 hk2); show k2 ≠ b; omega)
     have HOUT : Hid (OwnE (((wo.setCell ⟨b, k * 2 + 1, none⟩ (.int .i64 ((y - nn : Nat) : Int))).drew).alloc (.cells (ext1 (((x + (y - nn) : Nat) : Int), (nn : Int))).toArray 198)) w.heap.size (.slice Al (natE out).length cl) (natE out)) := kH (x05 hout1 fun k2 hk2 => by
      have h1 := (World.ownsRow.lt hout1 k2 (x00.1 hk2)).2
      exact Below.heap_alloc _ _ k2 h1)
     have HLEN : Hid ((natE out).length <= 1000001) := kH (by simp [natE]; simp at hol; omega)
     have HSZ : Hid (w.heap.size <= (((wo.setCell ⟨b, k * 2 + 1, none⟩ (.int .i64 ((y - nn : Nat) : Int))).drew).alloc (.cells (ext1 (((x + (y - nn) : Nat) : Int), (nn : Int))).toArray 198)).heap.size) := kH (by
      simp [World.alloc, World.setCell, World.drew]
      omega)
     have HNEW := kH (kA hnew hS)
     clear hnew hS hext hrev hl2 hk hlr hsz hob hout1
     have hbe := x2A (((x + (y - nn) : Nat) : Int), (nn : Int))
     have hS8 : (wo.setCell ⟨b, k * 2 + 1, none⟩ (.int .i64 ((y - nn : Nat) : Int))).drew.cell? ⟨b, k * 2, none⟩ = some (.int .i64 (x : Int)) /\ (wo.setCell ⟨b, k * 2 + 1, none⟩ (.int .i64 ((y - nn : Nat) : Int))).drew.cell? ⟨b, k * 2 + 1, none⟩ = some (.int .i64 ((y - nn : Nat) : Int)) := HC8.out
     have HS8 := kH hS8
     go_upto_region 8 with (fail)
     refine x09 (fun w' => w'.cell? ⟨b, k * 2, none⟩ = some (.int .i64 (x : Int)) /\ w'.cell? ⟨b, k * 2 + 1, none⟩ = some (.int .i64 ((y - nn : Nat) : Int))) 14 (by kernel_rfl) ?_
     refine tL (i := 0) (v := .slice Al (natE out).length cl) rfl rfl (by kernel_rfl) (by rfl) (fun w hw => by kernel_rfl) hS8 ?_
     simp only [Act.put, nB, nC, nD, nE, nF, nG]
     refine tL (i := 1) (v := .pointer (some ⟨b, k * 2, none⟩)) rfl rfl (by kernel_rfl) (by rfl) (fun w hw => by kernel_rfl) hS8 ?_
     simp only [Act.put, nB, nC, nD, nE, nF, nG]
     refine tL (i := 2) (v := .pointer (some ⟨b, k * 2, none⟩)) rfl rfl (by kernel_rfl) (by rfl) (fun w hw => by go_simp) hS8 ?_
     simp only [Act.put, nB, nC, nD, nE, nF, nG]
     refine tL (i := 3) (v := .pointer (some ⟨b, k * 2, none⟩)) rfl rfl (by kernel_rfl) (by rfl) (fun w hw => by kernel_rfl) hS8 ?_
     simp only [Act.put, nB, nC, nD, nE, nF, nG]
     refine tL (i := 4) (v := .int .i64 (x : Int)) rfl rfl (by kernel_rfl) (by rfl) (fun w hw => by have q := hw.1; go_simp) hS8 ?_
     simp only [Act.put, nB, nC, nD, nE, nF, nG]
     refine tL (i := 5) (v := .pointer (some ⟨b, k * 2, none⟩)) rfl rfl (by kernel_rfl) (by rfl) (fun w hw => by kernel_rfl) hS8 ?_
     simp only [Act.put, nB, nC, nD, nE, nF, nG]
     refine tL (i := 6) (v := .pointer (some ⟨b, k * 2, none⟩)) rfl rfl (by kernel_rfl) (by rfl) (fun w hw => by go_simp) hS8 ?_
     simp only [Act.put, nB, nC, nD, nE, nF, nG]
     refine tL (i := 7) (v := .pointer (some ⟨b, k * 2 + 1, none⟩)) rfl rfl (by kernel_rfl) (by rfl) (fun w hw => by kernel_rfl) hS8 ?_
     simp only [Act.put, nB, nC, nD, nE, nF, nG]
     refine tL (i := 8) (v := .int .i64 ((y - nn : Nat) : Int)) rfl rfl (by kernel_rfl) (by rfl) (fun w hw => by have q := hw.2; go_simp) hS8 ?_
     simp only [Act.put, nB, nC, nD, nE, nF, nG]
     refine tL (i := 9) (v := .int .i64 ((x + (y - nn) : Nat) : Int)) rfl rfl (by kernel_rfl) (by rfl) (fun w hw => by go_simp) hS8 ?_
     simp only [Act.put, nB, nC, nD, nE, nF, nG]
     refine tL (i := 10) (v := .int .i64 (nn : Int)) rfl rfl (by kernel_rfl) (by rfl) (fun w hw => by kernel_rfl) hS8 ?_
     simp only [Act.put, nB, nC, nD, nE, nF, nG]
     refine tL (i := 11) (v := .agg #[.int .i64 ((x + (y - nn) : Nat) : Int), .int .i64 (nn : Int)]) rfl rfl (by kernel_rfl) (by rfl) (fun w hw => by go_simp) hS8 ?_
     simp only [Act.put, nB, nC, nD, nE, nF, nG]
     refine x01 (j := 12) (by kernel_rfl) rfl (by rfl) ?_
     simp only [Act.put, nB, nC, nD, nE, nF, nG]
     refine x0B (v := .slice (some ⟨(wo.setCell ⟨b, k * 2 + 1, none⟩ (.int .i64 ((y - nn : Nat) : Int))).drew.heap.size, 0, none⟩) 1 1) (w' := ((wo.setCell ⟨b, k * 2 + 1, none⟩ (.int .i64 ((y - nn : Nat) : Int))).drew).alloc (.cells (ext1 (((x + (y - nn) : Nat) : Int), (nn : Int))).toArray 198)) (by have hq := hbe ((wo.setCell ⟨b, k * 2 + 1, none⟩ (.int .i64 ((y - nn : Nat) : Int))).drew); go_simp; rfl) ⟨⟨(x1G hS8.1), (x1G hS8.2)⟩, ?_⟩
     simp only [Act.put, nB, nC, nD, nE, nF, nG]
     refine x01 (j := 13) (by kernel_rfl) rfl (by rfl) ?_
     simp only [Act.put, nB, nC, nD, nE, nF, nG]
     obtain ⟨i0, hi0, hz0, hz1, hz2⟩ := info_parts x36
     refine x18 _ (.tmp 40) (.tmp 52) 135 rfl w.heap.size 198 i0 _ 2 16 Tryz.underlying135 hi0 hz0 hz1 hz2 rfl (by omega) (.slice Al (natE out).length cl) (natE out).length (extS (natE out)) rfl HOUT.out _ (some ⟨_, 0, none⟩) 1 1 (extS [(((x + (y - nn) : Nat) : Int), (nn : Int))]) rfl (x3V _ _) (x3Y _) (by simp only [maxLen]; have := HLEN.out; omega) (by have := HLEN.out; omega) (HSZ.out) ?_
     intro v' w' hown hgr hor
     have hown2 : OwnE w' w.heap.size v' (natE out ++ [(((x + (y - nn) : Nat) : Int), (nn : Int))]) := by unfold OwnE; rw [extS, List.flatMap_append, List.length_append]; exact hown
     obtain ⟨hstep, hc0, hc1⟩ := HNEW.out.2.step hbl hgl hbg HNEW.out.1 hgr hown2
     rw [<- HKK.out] at hc0 hc1
     obtain ⟨A2, c2, rfl, -⟩ := (hstep 0).own.form
     have HSTEP := kH hstep
     clear hown hown2 hstep hgr hor
     refine ⟨⟨hc0, hc1⟩, ?_⟩
     simp only [Act.put, nB, nC, nD, nE, nF, nG]
     refine x1V (by kernel_rfl) rfl (by rfl) (by kernel_rfl) ?_
     simp only [Act.put, nB, nC, nD, nE, nF, nG]
     refine x0B (v := .slice A2 (natE (out ++ [((x + (y - nn) : Nat), nn)])).length c2) (w' := w') (by kernel_rfl) ?_
     simp only [Act.put, nB, nC, nD, nE, nF, nG]
     simp only [NoPanic, Exit.then]
     have hz9 : decide (((y - nn : Nat) : Int) = 0) = false := decide_eq_false (by omega)
     go_wp2
     refine ⟨⟨0, (x, y - nn) :: r', out ++ [(x + (y - nn), nn)], rfl, Nat.zero_le _, Nat.zero_le _, ?_, by simpa using hrl, by simp at hol hol2 ⊢; omega, .inr rfl, ?_, HSTEP.out 0⟩, by simp [intS]; omega⟩
     ·intro e he
      rcases List.mem_cons.1 he with rfl | he
      ·exact ⟨by show 1 <= y - nn; omega, hxy.2.1, by have := hxy.2.2; show y - nn <= 1000000; simp at this; omega⟩
      ·exact hrr' e he
     ·rw [x61, heq, x92 hn0 hlt]
      simp
    ·rcases Nat.lt_or_ge y nn with hyn | hyn
     ·have hmin : decide ((nn : Int) <= (y : Int)) = false := decide_eq_false (by omega)
      have hw2 : IntKind.i64.wrap ((y : Int) - (y : Int)) = 0 := by rw [IntKind.wrap_i64]; omega
      have hw3 : IntKind.i64.wrap ((nn : Int) - (y : Int)) = ((nn - y : Nat) : Int) := by rw [IntKind.wrap_i64]; omega
      have hw4 : IntKind.i64.wrap ((x : Int) + 0) = (x : Int) := by rw [IntKind.wrap_i64]; omega
      have hw5 : IntKind.i64.wrap (x : Int) = (x : Int) := by rw [IntKind.wrap_i64]; omega
      obtain ⟨hnew, c0, c1, f1⟩ := hext.relen (0 : Int)
      rw [hlr, <- hk] at hnew c0 c1 f1
      have HC8 : Hid ((wo.setCell ⟨b, k * 2 + 1, none⟩ (.int .i64 (0 : Int))).drew.cell? ⟨b, k * 2, none⟩ = some (.int .i64 (x : Int)) /\ (wo.setCell ⟨b, k * 2 + 1, none⟩ (.int .i64 (0 : Int))).drew.cell? ⟨b, k * 2 + 1, none⟩ = some (.int .i64 (0 : Int))) := kH (by
       have h := hnew.relen (0 : Int)
       rw [hlr, <- hk] at h
       exact ⟨h.2.1, h.2.2.1⟩)
      have hsz : w.heap.size <= wo.heap.size := hS.only.size
      have hob : ∀ k2, (Value.slice Al (natE out).length cl).ownBlock = some k2 -> w.heap.size <= k2 := fun k2 hk2 => (World.ownsRow.lt hS.own k2 hk2).1
      have hout1 : OwnE (wo.setCell ⟨b, k * 2 + 1, none⟩ (.int .i64 (0 : Int))) w.heap.size (.slice Al (natE out).length cl) (natE out) := x05 hS.own fun k2 hk2 => Below.heap_setCell _ _ _ _ (by have := hob k2 (x00.1 hk2); show k2 ≠ b; omega)
      have HOUT : Hid (OwnE (((wo.setCell ⟨b, k * 2 + 1, none⟩ (.int .i64 (0 : Int))).drew).alloc (.cells (ext1 ((x : Int), (y : Int))).toArray 198)) w.heap.size (.slice Al (natE out).length cl) (natE out)) := kH (x05 hout1 fun k2 hk2 => by
       have h1 := (World.ownsRow.lt hout1 k2 (x00.1 hk2)).2
       exact Below.heap_alloc _ _ k2 h1)
      have HLEN : Hid ((natE out).length <= 1000001) := kH (by simp [natE]; simp at hol; omega)
      have HSZ : Hid (w.heap.size <= (((wo.setCell ⟨b, k * 2 + 1, none⟩ (.int .i64 (0 : Int))).drew).alloc (.cells (ext1 ((x : Int), (y : Int))).toArray 198)).heap.size) := kH (by
       simp [World.alloc, World.setCell, World.drew]
       omega)
      have HNEW := kH (kA hnew hS)
      clear hnew hS hext hrev hl2 hk hlr hsz hob hout1
      have hbe := x2A ((x : Int), (y : Int))
      have hS8 : (wo.setCell ⟨b, k * 2 + 1, none⟩ (.int .i64 (0 : Int))).drew.cell? ⟨b, k * 2, none⟩ = some (.int .i64 (x : Int)) /\ (wo.setCell ⟨b, k * 2 + 1, none⟩ (.int .i64 (0 : Int))).drew.cell? ⟨b, k * 2 + 1, none⟩ = some (.int .i64 (0 : Int)) := HC8.out
      have HS8 := kH hS8
      go_upto_region 8 with (fail)
      refine x09 (fun w' => w'.cell? ⟨b, k * 2, none⟩ = some (.int .i64 (x : Int)) /\ w'.cell? ⟨b, k * 2 + 1, none⟩ = some (.int .i64 (0 : Int))) 14 (by kernel_rfl) ?_
      refine tL (i := 0) (v := .slice Al (natE out).length cl) rfl rfl (by kernel_rfl) (by rfl) (fun w hw => by kernel_rfl) hS8 ?_
      simp only [Act.put, nB, nC, nD, nE, nF, nG]
      refine tL (i := 1) (v := .pointer (some ⟨b, k * 2, none⟩)) rfl rfl (by kernel_rfl) (by rfl) (fun w hw => by kernel_rfl) hS8 ?_
      simp only [Act.put, nB, nC, nD, nE, nF, nG]
      refine tL (i := 2) (v := .pointer (some ⟨b, k * 2, none⟩)) rfl rfl (by kernel_rfl) (by rfl) (fun w hw => by go_simp) hS8 ?_
      simp only [Act.put, nB, nC, nD, nE, nF, nG]
      refine tL (i := 3) (v := .pointer (some ⟨b, k * 2, none⟩)) rfl rfl (by kernel_rfl) (by rfl) (fun w hw => by kernel_rfl) hS8 ?_
      simp only [Act.put, nB, nC, nD, nE, nF, nG]
      refine tL (i := 4) (v := .int .i64 (x : Int)) rfl rfl (by kernel_rfl) (by rfl) (fun w hw => by have q := hw.1; go_simp) hS8 ?_
      simp only [Act.put, nB, nC, nD, nE, nF, nG]
      refine tL (i := 5) (v := .pointer (some ⟨b, k * 2, none⟩)) rfl rfl (by kernel_rfl) (by rfl) (fun w hw => by kernel_rfl) hS8 ?_
      simp only [Act.put, nB, nC, nD, nE, nF, nG]
      refine tL (i := 6) (v := .pointer (some ⟨b, k * 2, none⟩)) rfl rfl (by kernel_rfl) (by rfl) (fun w hw => by go_simp) hS8 ?_
      simp only [Act.put, nB, nC, nD, nE, nF, nG]
      refine tL (i := 7) (v := .pointer (some ⟨b, k * 2 + 1, none⟩)) rfl rfl (by kernel_rfl) (by rfl) (fun w hw => by kernel_rfl) hS8 ?_
      simp only [Act.put, nB, nC, nD, nE, nF, nG]
      refine tL (i := 8) (v := .int .i64 (0 : Int)) rfl rfl (by kernel_rfl) (by rfl) (fun w hw => by have q := hw.2; go_simp) hS8 ?_
      simp only [Act.put, nB, nC, nD, nE, nF, nG]
      refine tL (i := 9) (v := .int .i64 (x : Int)) rfl rfl (by kernel_rfl) (by rfl) (fun w hw => by go_simp) hS8 ?_
      simp only [Act.put, nB, nC, nD, nE, nF, nG]
      refine tL (i := 10) (v := .int .i64 (y : Int)) rfl rfl (by kernel_rfl) (by rfl) (fun w hw => by kernel_rfl) hS8 ?_
      simp only [Act.put, nB, nC, nD, nE, nF, nG]
      refine tL (i := 11) (v := .agg #[.int .i64 (x : Int), .int .i64 (y : Int)]) rfl rfl (by kernel_rfl) (by rfl) (fun w hw => by go_simp) hS8 ?_
      simp only [Act.put, nB, nC, nD, nE, nF, nG]
      refine x01 (j := 12) (by kernel_rfl) rfl (by rfl) ?_
      simp only [Act.put, nB, nC, nD, nE, nF, nG]
      refine x0B (v := .slice (some ⟨(wo.setCell ⟨b, k * 2 + 1, none⟩ (.int .i64 (0 : Int))).drew.heap.size, 0, none⟩) 1 1) (w' := ((wo.setCell ⟨b, k * 2 + 1, none⟩ (.int .i64 (0 : Int))).drew).alloc (.cells (ext1 ((x : Int), (y : Int))).toArray 198)) (by have hq := hbe ((wo.setCell ⟨b, k * 2 + 1, none⟩ (.int .i64 (0 : Int))).drew); go_simp; rfl) ⟨⟨(x1G hS8.1), (x1G hS8.2)⟩, ?_⟩
      simp only [Act.put, nB, nC, nD, nE, nF, nG]
      refine x01 (j := 13) (by kernel_rfl) rfl (by rfl) ?_
      simp only [Act.put, nB, nC, nD, nE, nF, nG]
      obtain ⟨i0, hi0, hz0, hz1, hz2⟩ := info_parts x36
      refine x18 _ (.tmp 40) (.tmp 52) 135 rfl w.heap.size 198 i0 _ 2 16 Tryz.underlying135 hi0 hz0 hz1 hz2 rfl (by omega) (.slice Al (natE out).length cl) (natE out).length (extS (natE out)) rfl HOUT.out _ (some ⟨_, 0, none⟩) 1 1 (extS [((x : Int), (y : Int))]) rfl (x3V _ _) (x3Y _) (by simp only [maxLen]; have := HLEN.out; omega) (by have := HLEN.out; omega) (HSZ.out) ?_
      intro v' w' hown hgr hor
      have hown2 : OwnE w' w.heap.size v' (natE out ++ [((x : Int), (y : Int))]) := by unfold OwnE; rw [extS, List.flatMap_append, List.length_append]; exact hown
      obtain ⟨hstep, hc0, hc1⟩ := HNEW.out.2.step (z := 0) hbl hgl hbg HNEW.out.1 hgr hown2
      rw [<- HKK.out] at hc0 hc1
      have hc1 : w'.cell? ⟨b, k * 2 + 1, none⟩ = some (.int .i64 0) := hc1
      have q10 : w'.cell? ⟨g, 2, none⟩ = some (.slice (some ⟨b, 0, none⟩) (k + 1) c) := by rw [(hstep 0).blk.cell, Array.getElem?_setIfInBounds_self_of_lt hcs, HKK.out]; rfl
      have f10 : w'.frozen? ⟨g, 2, none⟩ = false := (hstep 0).blk.frozen 2
      have hsl := x67 b (k + 1) c k (by omega)
      obtain ⟨A2, c2, rfl, -⟩ := (hstep 0).own.form
      have HSTEP := kH hstep
      clear hown hown2 hstep hgr hor
      refine ⟨⟨hc0, hc1⟩, ?_⟩
      simp only [Act.put, nB, nC, nD, nE, nF, nG]
      refine x1V (by kernel_rfl) rfl (by rfl) (by kernel_rfl) ?_
      simp only [Act.put, nB, nC, nD, nE, nF, nG]
      refine x0B (v := .slice A2 (natE (out ++ [(x, y)])).length c2) (w' := w') (by kernel_rfl) ?_
      simp only [Act.put, nB, nC, nD, nE, nF, nG]
      simp only [NoPanic, Exit.then]
      go_wp2
      refine ⟨⟨nn - y, r', out ++ [(x, y)], rfl, by rw [hlens] at hnl; omega, by omega, hrr', by simp at hrl; omega, by simp at hol hol2 ⊢; omega, by simp at hol hol2 ⊢; omega, ?_, by have h := (HSTEP.out 0).pop hbl hgl hbg (nn - y); rw [<- HKK.out] at h; exact h⟩, by simp [intS]; omega⟩
      rw [heq, x4Q hn0 (by omega)]
      simp
     ·obtain rfl : y = nn := by omega
      have hmin : decide ((y : Int) <= (y : Int)) = true := decide_eq_true (by omega)
      have hw2 : IntKind.i64.wrap ((y : Int) - (y : Int)) = 0 := by rw [IntKind.wrap_i64]; omega
      have hw3 : IntKind.i64.wrap ((y : Int) - (y : Int)) = ((0 : Nat) : Int) := by rw [IntKind.wrap_i64]; omega
      have hw4 : IntKind.i64.wrap ((x : Int) + 0) = (x : Int) := by rw [IntKind.wrap_i64]; omega
      have hw5 : IntKind.i64.wrap (x : Int) = (x : Int) := by rw [IntKind.wrap_i64]; omega
      obtain ⟨hnew, c0, c1, f1⟩ := hext.relen (0 : Int)
      rw [hlr, <- hk] at hnew c0 c1 f1
      have HC8 : Hid ((wo.setCell ⟨b, k * 2 + 1, none⟩ (.int .i64 (0 : Int))).drew.cell? ⟨b, k * 2, none⟩ = some (.int .i64 (x : Int)) /\ (wo.setCell ⟨b, k * 2 + 1, none⟩ (.int .i64 (0 : Int))).drew.cell? ⟨b, k * 2 + 1, none⟩ = some (.int .i64 (0 : Int))) := kH (by
       have h := hnew.relen (0 : Int)
       rw [hlr, <- hk] at h
       exact ⟨h.2.1, h.2.2.1⟩)
      have hsz : w.heap.size <= wo.heap.size := hS.only.size
      have hob : ∀ k2, (Value.slice Al (natE out).length cl).ownBlock = some k2 -> w.heap.size <= k2 := fun k2 hk2 => (World.ownsRow.lt hS.own k2 hk2).1
      have hout1 : OwnE (wo.setCell ⟨b, k * 2 + 1, none⟩ (.int .i64 (0 : Int))) w.heap.size (.slice Al (natE out).length cl) (natE out) := x05 hS.own fun k2 hk2 => Below.heap_setCell _ _ _ _ (by have := hob k2 (x00.1 hk2); show k2 ≠ b; omega)
      have HOUT : Hid (OwnE (((wo.setCell ⟨b, k * 2 + 1, none⟩ (.int .i64 (0 : Int))).drew).alloc (.cells (ext1 ((x : Int), (y : Int))).toArray 198)) w.heap.size (.slice Al (natE out).length cl) (natE out)) := kH (x05 hout1 fun k2 hk2 => by
       have h1 := (World.ownsRow.lt hout1 k2 (x00.1 hk2)).2
       exact Below.heap_alloc _ _ k2 h1)
      have HLEN : Hid ((natE out).length <= 1000001) := kH (by simp [natE]; simp at hol; omega)
      have HSZ : Hid (w.heap.size <= (((wo.setCell ⟨b, k * 2 + 1, none⟩ (.int .i64 (0 : Int))).drew).alloc (.cells (ext1 ((x : Int), (y : Int))).toArray 198)).heap.size) := kH (by
       simp [World.alloc, World.setCell, World.drew]
       omega)
      have HNEW := kH (kA hnew hS)
      clear hnew hS hext hrev hl2 hk hlr hsz hob hout1
      have hbe := x2A ((x : Int), (y : Int))
      have hS8 : (wo.setCell ⟨b, k * 2 + 1, none⟩ (.int .i64 (0 : Int))).drew.cell? ⟨b, k * 2, none⟩ = some (.int .i64 (x : Int)) /\ (wo.setCell ⟨b, k * 2 + 1, none⟩ (.int .i64 (0 : Int))).drew.cell? ⟨b, k * 2 + 1, none⟩ = some (.int .i64 (0 : Int)) := HC8.out
      have HS8 := kH hS8
      go_upto_region 8 with (fail)
      refine x09 (fun w' => w'.cell? ⟨b, k * 2, none⟩ = some (.int .i64 (x : Int)) /\ w'.cell? ⟨b, k * 2 + 1, none⟩ = some (.int .i64 (0 : Int))) 14 (by kernel_rfl) ?_
      refine tL (i := 0) (v := .slice Al (natE out).length cl) rfl rfl (by kernel_rfl) (by rfl) (fun w hw => by kernel_rfl) hS8 ?_
      simp only [Act.put, nB, nC, nD, nE, nF, nG]
      refine tL (i := 1) (v := .pointer (some ⟨b, k * 2, none⟩)) rfl rfl (by kernel_rfl) (by rfl) (fun w hw => by kernel_rfl) hS8 ?_
      simp only [Act.put, nB, nC, nD, nE, nF, nG]
      refine tL (i := 2) (v := .pointer (some ⟨b, k * 2, none⟩)) rfl rfl (by kernel_rfl) (by rfl) (fun w hw => by go_simp) hS8 ?_
      simp only [Act.put, nB, nC, nD, nE, nF, nG]
      refine tL (i := 3) (v := .pointer (some ⟨b, k * 2, none⟩)) rfl rfl (by kernel_rfl) (by rfl) (fun w hw => by kernel_rfl) hS8 ?_
      simp only [Act.put, nB, nC, nD, nE, nF, nG]
      refine tL (i := 4) (v := .int .i64 (x : Int)) rfl rfl (by kernel_rfl) (by rfl) (fun w hw => by have q := hw.1; go_simp) hS8 ?_
      simp only [Act.put, nB, nC, nD, nE, nF, nG]
      refine tL (i := 5) (v := .pointer (some ⟨b, k * 2, none⟩)) rfl rfl (by kernel_rfl) (by rfl) (fun w hw => by kernel_rfl) hS8 ?_
      simp only [Act.put, nB, nC, nD, nE, nF, nG]
      refine tL (i := 6) (v := .pointer (some ⟨b, k * 2, none⟩)) rfl rfl (by kernel_rfl) (by rfl) (fun w hw => by go_simp) hS8 ?_
      simp only [Act.put, nB, nC, nD, nE, nF, nG]
      refine tL (i := 7) (v := .pointer (some ⟨b, k * 2 + 1, none⟩)) rfl rfl (by kernel_rfl) (by rfl) (fun w hw => by kernel_rfl) hS8 ?_
      simp only [Act.put, nB, nC, nD, nE, nF, nG]
      refine tL (i := 8) (v := .int .i64 (0 : Int)) rfl rfl (by kernel_rfl) (by rfl) (fun w hw => by have q := hw.2; go_simp) hS8 ?_
      simp only [Act.put, nB, nC, nD, nE, nF, nG]
      refine tL (i := 9) (v := .int .i64 (x : Int)) rfl rfl (by kernel_rfl) (by rfl) (fun w hw => by go_simp) hS8 ?_
      simp only [Act.put, nB, nC, nD, nE, nF, nG]
      refine tL (i := 10) (v := .int .i64 (y : Int)) rfl rfl (by kernel_rfl) (by rfl) (fun w hw => by kernel_rfl) hS8 ?_
      simp only [Act.put, nB, nC, nD, nE, nF, nG]
      refine tL (i := 11) (v := .agg #[.int .i64 (x : Int), .int .i64 (y : Int)]) rfl rfl (by kernel_rfl) (by rfl) (fun w hw => by go_simp) hS8 ?_
      simp only [Act.put, nB, nC, nD, nE, nF, nG]
      refine x01 (j := 12) (by kernel_rfl) rfl (by rfl) ?_
      simp only [Act.put, nB, nC, nD, nE, nF, nG]
      refine x0B (v := .slice (some ⟨(wo.setCell ⟨b, k * 2 + 1, none⟩ (.int .i64 (0 : Int))).drew.heap.size, 0, none⟩) 1 1) (w' := ((wo.setCell ⟨b, k * 2 + 1, none⟩ (.int .i64 (0 : Int))).drew).alloc (.cells (ext1 ((x : Int), (y : Int))).toArray 198)) (by have hq := hbe ((wo.setCell ⟨b, k * 2 + 1, none⟩ (.int .i64 (0 : Int))).drew); go_simp; rfl) ⟨⟨(x1G hS8.1), (x1G hS8.2)⟩, ?_⟩
      simp only [Act.put, nB, nC, nD, nE, nF, nG]
      refine x01 (j := 13) (by kernel_rfl) rfl (by rfl) ?_
      simp only [Act.put, nB, nC, nD, nE, nF, nG]
      obtain ⟨i0, hi0, hz0, hz1, hz2⟩ := info_parts x36
      refine x18 _ (.tmp 40) (.tmp 52) 135 rfl w.heap.size 198 i0 _ 2 16 Tryz.underlying135 hi0 hz0 hz1 hz2 rfl (by omega) (.slice Al (natE out).length cl) (natE out).length (extS (natE out)) rfl HOUT.out _ (some ⟨_, 0, none⟩) 1 1 (extS [((x : Int), (y : Int))]) rfl (x3V _ _) (x3Y _) (by simp only [maxLen]; have := HLEN.out; omega) (by have := HLEN.out; omega) (HSZ.out) ?_
      intro v' w' hown hgr hor
      have hown2 : OwnE w' w.heap.size v' (natE out ++ [((x : Int), (y : Int))]) := by unfold OwnE; rw [extS, List.flatMap_append, List.length_append]; exact hown
      obtain ⟨hstep, hc0, hc1⟩ := HNEW.out.2.step (z := 0) hbl hgl hbg HNEW.out.1 hgr hown2
      rw [<- HKK.out] at hc0 hc1
      have hc1 : w'.cell? ⟨b, k * 2 + 1, none⟩ = some (.int .i64 0) := hc1
      have q10 : w'.cell? ⟨g, 2, none⟩ = some (.slice (some ⟨b, 0, none⟩) (k + 1) c) := by rw [(hstep 0).blk.cell, Array.getElem?_setIfInBounds_self_of_lt hcs, HKK.out]; rfl
      have f10 : w'.frozen? ⟨g, 2, none⟩ = false := (hstep 0).blk.frozen 2
      have hsl := x67 b (k + 1) c k (by omega)
      obtain ⟨A2, c2, rfl, -⟩ := (hstep 0).own.form
      have HSTEP := kH hstep
      clear hown hown2 hstep hgr hor
      refine ⟨⟨hc0, hc1⟩, ?_⟩
      simp only [Act.put, nB, nC, nD, nE, nF, nG]
      refine x1V (by kernel_rfl) rfl (by rfl) (by kernel_rfl) ?_
      simp only [Act.put, nB, nC, nD, nE, nF, nG]
      refine x0B (v := .slice A2 (natE (out ++ [(x, y)])).length c2) (w' := w') (by kernel_rfl) ?_
      simp only [Act.put, nB, nC, nD, nE, nF, nG]
      simp only [NoPanic, Exit.then]
      go_wp2
      refine ⟨⟨0, r', out ++ [(x, y)], rfl, by rw [hlens] at hnl; omega, by omega, hrr', by simp at hrl; omega, by simp at hol hol2 ⊢; omega, by exact .inr rfl, ?_, by have h := (HSTEP.out 0).pop hbl hgl hbg (0); rw [<- HKK.out] at h; exact h⟩, by simp [intS]; omega⟩
      rw [heq, x4Q hn0 (by omega)]
      simp
end
section
open Go.RowKit Go.BigFrame
def reachesB (kd at_ ln : Int) (m : Nat) : Bool := if kd = 8 then decide (0 <= at_) && decide (at_ <= 65536 - m) else if kd = 10 then decide (0 <= at_) && decide (at_ <= 65536) else decide (0 <= at_) && decide (0 <= ln)
theorem x06 (w : World) (o : Obj) : Below w.heap.size w (w.alloc o) := (Below.refl _ _).alloc (Nat.le_refl _) _
theorem xEK (kd at_ ln : Int) (nm : Value) (D : Option Addr) (m c : Nat) (hm : m <= 1000000) (hnm : nm.cells = #[nm]) (w : World) : Calls Tryz.prog 167 #[.agg #[.int .i64 kd, .int .i64 at_, .int .i64 ln, nm, .slice D m c]] w fun e w' => e = .returned (.bool (reachesB kd at_ ln m)) /\ Below w.heap.size w w' := by
 have hw : IntKind.i64.wrap (65536 - (m : Int)) = 65536 - (m : Int) := by rw [IntKind.wrap_i64]; omega
 by_cases h8 : kd = 8
 ·subst h8
  by_cases ha : 0 <= at_
  ·have hda : decide (0 <= at_) = true := decide_eq_true ha
   go_enter Tryz.func167, Tryz.ntmps167
   go_wp2
   go_ret
   exact ⟨by simp [reachesB, hda], x06 _ _⟩
  ·have hda : decide (0 <= at_) = false := decide_eq_false ha
   go_enter Tryz.func167, Tryz.ntmps167
   go_wp2
   go_ret
   exact ⟨by simp [reachesB, hda], x06 _ _⟩
 ·have hd8 : decide (kd = 8) = false := decide_eq_false h8
  by_cases h10 : kd = 10
  ·subst h10
   by_cases ha : 0 <= at_
   ·have hda : decide (0 <= at_) = true := decide_eq_true ha
    go_enter Tryz.func167, Tryz.ntmps167
    go_wp2
    go_ret
    exact ⟨by simp [reachesB, hda], x06 _ _⟩
   ·have hda : decide (0 <= at_) = false := decide_eq_false ha
    go_enter Tryz.func167, Tryz.ntmps167
    go_wp2
    go_ret
    exact ⟨by simp [reachesB, hda], x06 _ _⟩
  ·have hd10 : decide (kd = 10) = false := decide_eq_false h10
   by_cases ha : 0 <= at_
   ·have hda : decide (0 <= at_) = true := decide_eq_true ha
    go_enter Tryz.func167, Tryz.ntmps167
    go_wp2
    go_ret
    exact ⟨by simp [reachesB, hda, h8, h10], x06 _ _⟩
   ·have hda : decide (0 <= at_) = false := decide_eq_false ha
    go_enter Tryz.func167, Tryz.ntmps167
    go_wp2
    go_ret
    exact ⟨by simp [reachesB, hda, h8, h10], x06 _ _⟩
end
section
open Go.RowKit Go.BigFrame
inductive Rel2 {α β : Type} (R : α -> β -> Prop) : List α -> List β -> Prop
 | nil : Rel2 R [] []
 | cons {a : α} {b : β} {l : List α} {m : List β} : R a b -> Rel2 R l m -> Rel2 R (a :: l) (b :: m)
section
variable {α β : Type} {R S : α -> β -> Prop} {l : List α} {m : List β}
theorem Rel2.len (h : Rel2 R l m) : l.length = m.length := by
 induction h with
 | nil => rfl
 | cons _ _ ih => simp [ih]
theorem Rel2.imp (h : Rel2 R l m) (hi : ∀ a b, R a b -> S a b) : Rel2 S l m := by
 induction h with
 | nil => exact .nil
 | cons h1 _ ih => exact .cons (hi _ _ h1) ih
theorem Rel2.at_ (h : Rel2 R l m) {k : Nat} {a : α} (hk : l[k]? = some a) : ∃ b, m[k]? = some b /\ R a b := by
 induction h generalizing k with
 | nil => simp at hk
 | cons h1 _ ih =>
  cases k with
  | zero => simp at hk; subst hk; exact ⟨_, rfl, h1⟩
  | succ k => exact ih (by simpa using hk)
theorem Rel2.at' (h : Rel2 R l m) {k : Nat} {b : β} (hk : m[k]? = some b) : ∃ a, l[k]? = some a /\ R a b := by
 induction h generalizing k with
 | nil => simp at hk
 | cons h1 _ ih =>
  cases k with
  | zero => simp at hk; subst hk; exact ⟨_, rfl, h1⟩
  | succ k => exact ih (by simpa using hk)
theorem Rel2.app {l' : List α} {m' : List β} (h : Rel2 R l m) (h' : Rel2 R l' m') : Rel2 R (l ++ l') (m ++ m') := by
 induction h with
 | nil => exact h'
 | cons h1 _ ih => exact .cons h1 ih
end
section
variable {V : Type}
def gget (l : List (Key × V)) (k : Key) : Option V := (l.find? fun p => p.1 == k).map (·.2)
def gins (x : Key × V) : List (Key × V) -> List (Key × V)
 | [] => [x]
 | y :: r => if bytesBefore x.1 y.1 then x :: y :: r else y :: gins x r
def gdel (k : Key) (l : List (Key × V)) : List (Key × V) := l.filter fun p => !(p.1 == k)
def gput (k : Key) (v : V) (l : List (Key × V)) : List (Key × V) := gins (k, v) (gdel k l)
theorem xDI (x : Key × V) : ∀ l : List (Key × V), (gins x l).length = l.length + 1
 | [] => rfl
 | y :: r => by
  rw [gins]
  split
  ·rfl
  ·simp [xDI x r]
theorem x8V (k : Key) (l : List (Key × V)) : (gdel k l).length <= l.length := List.length_filter_le _ _
theorem x5Q (k : Key) (v : V) (l : List (Key × V)) : (gput k v l).length <= l.length + 1 := by
 unfold gput
 rw [xDI]
 have := x8V k l
 omega
theorem x6K (x : Key × V) : ∀ l : List (Key × V), (gins x l).Perm (x :: l)
 | [] => List.Perm.refl _
 | y :: r => by
  rw [gins]
  split
  ·exact List.Perm.refl _
  ·exact ((x6K x r).cons y).trans (List.Perm.swap x y r)
theorem x3H (k : Key) (v : V) (l : List (Key × V)) : (gput k v l).Perm ((k, v) :: gdel k l) := x6K _ _
theorem x1O {l : List (Key × V)} {k : Key} {v : V} (h : gget l k = some v) : (k, v) ∈ l := by
 unfold gget at h
 cases hf : l.find? (fun p => p.1 == k) with
 | none => rw [hf] at h; cases h
 | some p =>
  rw [hf] at h
  simp at h
  have h1 := List.find?_some hf
  have h2 := List.mem_of_find?_eq_some hf
  simp at h1
  subst h h1
  exact h2
theorem xBI {l : List (Key × V)} {k : Key} (h : gget l k = none) : ∀ p ∈ l, p.1 ≠ k := by
 unfold gget at h
 simp at h
 intro p hp e
 exact h p.1 p.2 hp e
def Keys1 (l : List (Key × V)) : Prop := (l.map (·.1)).Nodup
theorem Keys1.del {l : List (Key × V)} (h : Keys1 l) (k : Key) : Keys1 (gdel k l) := List.Nodup.sublist (List.filter_sublist.map _) h
theorem x70 (k : Key) (l : List (Key × V)) : ∀ p ∈ gdel k l, p.1 ≠ k /\ p ∈ l := fun p hp => by
 simp [gdel] at hp
 exact ⟨hp.2, hp.1⟩
theorem Keys1.put {l : List (Key × V)} (h : Keys1 l) (k : Key) (v : V) : Keys1 (gput k v l) := by
 unfold Keys1
 rw [((x3H k v l).map (·.1)).nodup_iff]
 simp only [List.map_cons, List.nodup_cons]
 refine ⟨fun hm => ?_, h.del k⟩
 obtain ⟨p, hp, e⟩ := List.mem_map.1 hm
 exact (x70 k l p hp).1 e
theorem Keys1.get {l : List (Key × V)} (h : Keys1 l) {p : Key × V} (hp : p ∈ l) : gget l p.1 = some p.2 := by
 unfold gget
 have : l.find? (fun q => q.1 == p.1) = some p := by
  induction l with
  | nil => cases hp
  | cons q l ih =>
   unfold Keys1 at h
   simp only [List.map_cons, List.nodup_cons] at h
   rw [List.find?_cons]
   by_cases e : q.1 = p.1
   ·have : (q.1 == p.1) = true := by simpa using e
    rw [this]
    rcases List.mem_cons.1 hp with rfl | hp
    ·rfl
    ·exact absurd (List.mem_map.2 ⟨p, hp, e.symm⟩) h.1
   ·have : (q.1 == p.1) = false := by simpa using e
    rw [this]
    rcases List.mem_cons.1 hp with rfl | hp
    ·exact absurd rfl e
    ·exact ih h.2 hp
 rw [this]
 rfl
theorem xAL {l : List (Key × V)} (h : Keys1 l) {k : Key} {v : V} (hg : gget l k = some v) : l.Perm ((k, v) :: gdel k l) := by
 induction l with
 | nil => cases hg
 | cons q l ih =>
  unfold Keys1 at h
  simp only [List.map_cons, List.nodup_cons] at h
  unfold gget at hg
  rw [List.find?_cons] at hg
  unfold gdel
  rw [List.filter_cons]
  by_cases e : q.1 = k
  ·have he : (q.1 == k) = true := by simpa using e
   rw [he] at hg ⊢
   simp at hg
   have hq : q = (k, v) := by rw [<- e, <- hg]
   have hd : l.filter (fun p => !(p.1 == k)) = l := List.filter_eq_self.2 fun p hp => by
    have : (p.1 == k) = false := by simpa using fun e' : p.1 = k => h.1 (List.mem_map.2 ⟨p, hp, e'.trans e.symm⟩)
    rw [this]; rfl
   simp only [Bool.not_true, Bool.false_eq_true, if_false]
   rw [hd, hq]
  ·have he : (q.1 == k) = false := by simpa using e
   rw [he] at hg ⊢
   simp only [Bool.not_false, if_true]
   exact ((ih h.2 hg).cons q).trans (List.Perm.swap _ _ _)
theorem xAK {l : List (Key × V)} {k : Key} (hg : gget l k = none) : gdel k l = l := List.filter_eq_self.2 fun p hp => by
 simp
 exact xBI hg p hp
end
section
variable {V : Type} {R : Key × Value -> Key × V -> Prop} {kv : KV} {l : List (Key × V)}
theorem Rel2.ins (hk : ∀ p q, R p q -> p.1 = q.1) (h : Rel2 R kv l) {x : Key × Value} {y : Key × V} (hx : R x y) : Rel2 R (ains x kv) (gins y l) := by
 induction h with
 | nil => exact .cons hx .nil
 | @cons a b l m h1 h2 ih =>
  rw [ains, gins, hk _ _ hx, hk _ _ h1]
  split
  ·exact .cons hx (.cons h1 h2)
  ·exact .cons h1 ih
theorem Rel2.del (hk : ∀ p q, R p q -> p.1 = q.1) (h : Rel2 R kv l) (k : Key) : Rel2 R (adel k kv) (gdel k l) := by
 induction h with
 | nil => exact .nil
 | @cons a b l m h1 h2 ih =>
  unfold adel gdel at ih ⊢
  rw [List.filter_cons, List.filter_cons, hk _ _ h1]
  split
  ·exact .cons h1 ih
  ·exact ih
theorem Rel2.put (hk : ∀ p q, R p q -> p.1 = q.1) (h : Rel2 R kv l) {k : Key} {v : Value} {u : V} (hx : R (k, v) (k, u)) : Rel2 R (aput k v kv) (gput k u l) := (h.del hk k).ins hk hx
theorem Rel2.get (hk : ∀ p q, R p q -> p.1 = q.1) (h : Rel2 R kv l) (k : Key) : (aget kv k = none /\ gget l k = none) ∨ ∃ v u, aget kv k = some v /\ gget l k = some u /\ R (k, v) (k, u) := by
 induction h with
 | nil => exact .inl ⟨rfl, rfl⟩
 | @cons a b l m h1 h2 ih =>
  unfold aget gget at ih ⊢
  rw [List.find?_cons, List.find?_cons, hk _ _ h1]
  by_cases e : b.1 = k
  ·have he : (b.1 == k) = true := by simpa using e
   rw [he]
   have ha : a = (k, a.2) := by rw [<- e, <- hk _ _ h1]
   have hb : b = (k, b.2) := by rw [<- e]
   refine .inr ⟨a.2, b.2, rfl, rfl, ?_⟩
   rw [<- ha, <- hb]
   exact h1
  ·have he : (b.1 == k) = false := by simpa using e
   rw [he]
   exact ih
theorem Rel2.keys (hk : ∀ p q, R p q -> p.1 = q.1) (h : Rel2 R kv l) : kv.map (·.1) = l.map (·.1) := by
 induction h with
 | nil => rfl
 | cons h1 _ ih => simp [hk _ _ h1, ih]
end
structure StepV where
 kd : Int
 at_ : Int
 ln : Int
 nm : List Nat
 dt : List Nat
abbrev AL := List (Key × List Nat)
structure Ob where
 d : List Nat
 a : AL
 e : List (Nat × Nat)
structure Wk where
 th : Bool
 d : List Nat
 a : AL
 e : List (Nat × Nat)
 told : List (List Nat)
structure Mod where
 bl : List Bool
 fl : List Bool
 ob : List (Key × Ob)
def needsB (d : List Nat) : Nat := (d.length + 15) / 16
def partB (d : List Nat) (at_ n : Nat) : List Nat := (d.drop (min at_ d.length)).take (min n (d.length - min at_ d.length))
def zeroB (d : List Nat) (at_ n : Nat) : List Nat := d.take (min at_ d.length) ++ List.replicate (min n (d.length - min at_ d.length)) 0 ++ d.drop (min at_ d.length + min n (d.length - min at_ d.length))
def insideW (W : Wk) (x : StepV) : Wk × Nat :=
 if x.kd = 11 then (if isNameB x.nm && decide (x.dt.length <= 1024) then ({W with a := gput (keyB x.nm) x.dt W.a}, 0) else (W, 1))
 else if x.kd = 12 then ({W with a := gdel (keyB x.nm) W.a}, 0)
 else if x.kd = 14 then (match gget W.a (keyB x.nm) with | some v => ({W with told := W.told ++ [v]}, 0) | none => (W, 6))
 else if reachesB x.kd x.at_ x.ln x.dt.length = false then (W, 1)
 else if x.kd = 8 then ({W with d := writeB W.d x.at_.toNat x.dt}, 0)
 else if x.kd = 9 then ({W with d := zeroB W.d x.at_.toNat x.ln.toNat}, 0)
 else if x.kd = 10 then ({W with d := resizeB W.d x.at_.toNat}, 0)
 else ({W with told := W.told ++ [partB W.d x.at_.toNat x.ln.toNat]}, 0)
def becomeW (W : Wk) (b : Bool) : Wk := if W.th = b then W else {W with th := b, d := [], a := []}
def needW (bl : List Bool) (W : Wk) (x : StepV) : Nat :=
 if x.kd = 1 then (if W.th then 0 else 6)
 else if x.kd = 2 then (if W.th then 5 else 0)
 else if x.kd = 3 then (if gget W.a (keyB x.nm) = some x.dt then 0 else 7)
 else if x.kd = 4 then (if gget W.a (keyB x.nm) = none then 0 else 7)
 else if isClientB x.at_ then (if bl.getD x.at_.toNat false then 8 else 0) else 1
def stepW (bl : List Bool) (W : Wk) (x : StepV) : Wk × Nat :=
 if 1 <= x.kd /\ x.kd <= 5 then (W, needW bl W x)
 else if x.kd = 6 then (becomeW W true, 0)
 else if x.kd = 7 then (becomeW W false, 0)
 else if 8 <= x.kd /\ x.kd <= 14 then (if W.th then insideW W x else (W, 6))
 else (W, 2)
def runW (bl : List Bool) : Wk -> List StepV -> Wk × Nat
 | W, [] => (W, 0)
 | W, x :: xs => if (stepW bl W x).2 = 0 then runW bl (stepW bl W x).1 xs else stepW bl W x
def startW (M : Mod) (k : Key) : Wk := match gget M.ob k with | some o => ⟨true, o.d, o.a, o.e, []⟩ | none => ⟨false, [], [], [], []⟩
inductive FitR (fl : List Bool) (W : Wk) : List (Nat × Nat) -> List Bool -> Nat -> Prop
 | give : needsB W.d < lens W.e -> FitR fl W (shedR W.e.reverse (lens W.e - needsB W.d)).1.reverse (setA fl (shedR W.e.reverse (lens W.e - needsB W.d)).2 true) 0
 | full : lens W.e <= needsB W.d -> cnt fl < needsB W.d - lens W.e -> FitR fl W W.e fl 4
 | take {out : List (Nat × Nat)} : lens W.e <= needsB W.d -> needsB W.d - lens W.e <= cnt fl -> Chosen (hol 0 fl) (needsB W.d - lens W.e) out -> FitR fl W (W.e ++ out) (setA fl out false) 0
def endM (M : Mod) (k : Key) (W : Wk) (es : List (Nat × Nat)) (fl : List Bool) : Mod := {M with fl := fl, ob := if W.th then gput k ⟨W.d, W.a, es⟩ M.ob else gdel k M.ob}
inductive DoR (M : Mod) (nm : List Nat) (xs : List StepV) : Mod -> Nat -> List (List Nat) -> Prop
 | range : (isNameB nm = false ∨ xs.length < 1 ∨ 16 < xs.length) -> DoR M nm xs M 1 []
 | step : isNameB nm = true -> 1 <= xs.length -> xs.length <= 16 -> (runW M.bl (startW M (keyB nm)) xs).2 ≠ 0 -> DoR M nm xs M (runW M.bl (startW M (keyB nm)) xs).2 []
 | full {es : List (Nat × Nat)} {fl : List Bool} : isNameB nm = true -> 1 <= xs.length -> xs.length <= 16 -> (runW M.bl (startW M (keyB nm)) xs).2 = 0 -> FitR M.fl (runW M.bl (startW M (keyB nm)) xs).1 es fl 4 -> DoR M nm xs M 4 []
 | done {es : List (Nat × Nat)} {fl : List Bool} : isNameB nm = true -> 1 <= xs.length -> xs.length <= 16 -> (runW M.bl (startW M (keyB nm)) xs).2 = 0 -> FitR M.fl (runW M.bl (startW M (keyB nm)) xs).1 es fl 0 -> DoR M nm xs (endM M (keyB nm) (runW M.bl (startW M (keyB nm)) xs).1 es fl) 0 (runW M.bl (startW M (keyB nm)) xs).1.told
end
section
open Go.RowKit Go.BigFrame
def Small (bs : List Nat) : Prop := ∀ b ∈ bs, b < 256
theorem x0G {W : World} {base size n : Nat} {e : TypeId} {v : Value} {xs : List Value} (h : W.ownsRow base e size v n xs) {k : Nat} (hk : v.ownBlock = some k) : ∃ cs, Blk W k e cs := by
 rcases h.2 with ⟨rfl, _⟩ | ⟨g, c, cur, rfl, hb, hh, _⟩
 ·simp [Value.ownBlock] at hk
 ·simp [Value.ownBlock] at hk
  subst hk
  exact ⟨cur, hh⟩
theorem x12 {w w' : World} {G : List Nat} {base size n : Nat} {e : TypeId} {v : Value} {xs : List Value} (h : w.ownsRow base e size v n xs) (ho : Only G w w') (hG : ∀ k ∈ rowOf v, k ∉ G) : w'.ownsRow base e size v n xs :=
  x05 h fun k hk => ho.block k (x02 h k hk) (hG k hk)
def Odd (w : World) (e : TypeId) (k : Nat) : Prop := ∀ cs, ¬ Blk w k e cs
theorem Odd.blk {w : World} {e t : TypeId} {k : Nat} {cs : Array Value} (h : Blk w k t cs) (hne : t ≠ e) : Odd w e k := fun cs' h' => h.ne_ h' hne rfl
theorem Odd.map {w : World} {e : TypeId} {k : Nat} {P : Program} {kt : TypeId} {l : KV} (h : SMap P kt w k l) : Odd w e k := fun cs' h' => h.ne_blk h' rfl
theorem x0N {w w' : World} {G : List Nat} {base size n : Nat} {e : TypeId} {v : Value} {xs : List Value} (h : w.ownsRow base e size v n xs) (ho : Only G w w') (hG : ∀ k ∈ G, Odd w e k) : w'.ownsRow base e size v n xs :=
 x12 h ho fun k hk hm => by
  obtain ⟨cs, hb⟩ := x0G h (x00.1 hk)
  exact hG k hm cs hb
def RowR (w : World) (base : Nat) (F : List Nat) (u : Value) (bs : List Nat) : Prop := ∃ A c, u = .slice A bs.length c /\ Own w base u bs.length bs /\ Small bs /\ ∀ k ∈ rowOf u, k ∉ F
theorem RowR.only {w w' : World} {base : Nat} {F G : List Nat} {u : Value} {bs : List Nat} (h : RowR w base F u bs) (ho : Only G w w') (hG : ∀ k ∈ G, k ∈ F ∨ Odd w 5 k) : RowR w' base F u bs := by
 obtain ⟨A, c, rfl, h1, h2, h3⟩ := h
 refine ⟨A, c, rfl, x12 h1 ho fun k hk hm => ?_, h2, h3⟩
 rcases hG k hm with hf | hf
 ·exact h3 k hk hf
 ·obtain ⟨cs, hb⟩ := x0G h1 (x00.1 hk)
  exact hf cs hb
theorem RowR.below {w w' : World} {base : Nat} {F : List Nat} {u : Value} {bs : List Nat} (h : RowR w base F u bs) (hb : Below w.heap.size w w') : RowR w' base F u bs := by
 obtain ⟨A, c, rfl, h1, h2, h3⟩ := h
 exact ⟨A, c, rfl, h1.below hb, h2, h3⟩
theorem RowR.far {w : World} {base : Nat} {F F' : List Nat} {u : Value} {bs : List Nat} (h : RowR w base F u bs) (hF : ∀ k ∈ F', k ∈ F ∨ w.heap.size <= k) : RowR w base F' u bs := by
 obtain ⟨A, c, rfl, h1, h2, h3⟩ := h
 refine ⟨A, c, rfl, h1, h2, fun k hk hm => ?_⟩
 rcases hF k hm with hf | hf
 ·exact h3 k hk hf
 ·have := x02 h1 k hk; omega
theorem RowR.weaken {w : World} {base base' : Nat} {F : List Nat} {u : Value} {bs : List Nat} (h : RowR w base F u bs) (hb : base' <= base) : RowR w base' F u bs := by
 obtain ⟨A, c, rfl, h1, h2, h3⟩ := h
 exact ⟨A, c, rfl, h1.weaken hb, h2, h3⟩
def AttrR (w : World) (F : List Nat) (p : Key × Value) (q : Key × List Nat) : Prop := p.1 = q.1 /\ RowR w 0 F p.2 q.2
theorem AttrR.key {w : World} {F : List Nat} (p : Key × Value) (q : Key × List Nat) (h : AttrR w F p q) : p.1 = q.1 := h.1
def objC (D : Option Addr) (n c : Nat) (av : Value) (E : Option Addr) (m ce : Nat) : Array Value := #[.slice D n c, av, .slice E m ce]
structure ObAt (w : World) (go mb c ce : Nat) (D E : Option Addr) (kv : KV) (o : Ob) : Prop where
 blk : Blk w go 137 (objC D o.d.length c (.map (some mb)) E o.e.length ce)
 dat : Own w 0 (.slice D o.d.length c) o.d.length o.d
 ok : Small o.d
 map : SMap Tryz.prog 9 w mb kv
 att : Rel2 (AttrR w []) kv o.a
 ext : OwnE w 0 (.slice E o.e.length ce) (natE o.e)
theorem ObAt.below {w w' : World} {go mb c ce : Nat} {D E : Option Addr} {kv : KV} {o : Ob} (h : ObAt w go mb c ce D E kv o) (hb : Below w.heap.size w w') : ObAt w' go mb c ce D E kv o :=
  ⟨h.blk.of (hb.block _ h.blk.lt), h.dat.below hb, h.ok, h.map.of (hb.block _ h.map.lt), h.att.imp fun a b hr => ⟨hr.1, hr.2.below hb⟩, h.ext.below hb (x02 h.ext)⟩
theorem ObAt.only {w w' : World} {G : List Nat} {go mb c ce : Nat} {D E : Option Addr} {kv : KV} {o : Ob} (h : ObAt w go mb c ce D E kv o) (ho : Only G w w') (hG : ∀ k ∈ G, k < w.heap.size -> Odd w 137 k /\ Odd w 5 k /\ Odd w 198 k) (hm : mb ∉ G) : ObAt w' go mb c ce D E kv o := by
 have hu : ∀ {base size n : Nat} {e : TypeId} {v : Value} {xs : List Value}, w.ownsRow base e size v n xs -> (∀ k ∈ G, k < w.heap.size -> Odd w e k) -> w'.ownsRow base e size v n xs := fun h1 hx => x12 h1 ho fun k hk hm => by
  obtain ⟨cs, hb⟩ := x0G h1 (x00.1 hk)
  exact hx k hm (x02 h1 k hk) cs hb
 refine ⟨h.blk.of (ho.block _ h.blk.lt fun hm => (hG _ hm h.blk.lt).1 _ h.blk), hu h.dat fun k hk hl => (hG k hk hl).2.1, h.ok, h.map.of (ho.block _ h.map.lt hm), h.att.imp fun a b hr => ⟨hr.1, ?_⟩, hu h.ext fun k hk hl => (hG k hk hl).2.2⟩
 obtain ⟨A, c, e, h1, h2, h3⟩ := hr.2
 exact ⟨A, c, e, hu h1 fun k hk hl => (hG k hk hl).2.1, h2, h3⟩
def workC (D : Option Addr) (n c : Nat) (av : Value) (E : Option Addr) (m ce : Nat) (th : Bool) (T : Option Addr) (k ct gs : Nat) : Array Value := #[.slice D n c, av, .slice E m ce, .bool th, .slice T k ct, .pointer (some ⟨gs, 0, none⟩)]
structure WkAt (w : World) (B gw gs c ce ct : Nat) (D E T : Option Addr) (av : Value) (kv : KV) (tv : List Value) (W : Wk) : Prop where
 blk : Blk w gw 139 (workC D W.d.length c av E W.e.length ce W.th T W.told.length ct gs)
 gB : B <= gw
 dat : Own w B (.slice D W.d.length c) W.d.length W.d
 ok : Small W.d
 map : (av = .map none /\ kv = [] /\ W.th = false) ∨ ∃ mb, av = .map (some mb) /\ B <= mb /\ SMap Tryz.prog 9 w mb kv
 att : Rel2 (AttrR w (rowOf (.slice D W.d.length c))) kv W.a
 ext : OwnE w B (.slice E W.e.length ce) (natE W.e)
 tol : w.ownsRow B 35 1 (.slice T W.told.length ct) W.told.length tv
 els : Rel2 (RowR w B (rowOf (.slice D W.d.length c))) tv W.told
def Wkd (w : World) (B gw gs : Nat) (W : Wk) : Prop := ∃ c ce ct D E T av kv tv, WkAt w B gw gs c ce ct D E T av kv tv W
section
variable {w w' : World} {B gw gs c ce ct : Nat} {D E T : Option Addr} {av : Value} {kv : KV} {tv : List Value} {W : Wk}
theorem WkAt.below (h : WkAt w B gw gs c ce ct D E T av kv tv W) (hb : Below w.heap.size w w') : WkAt w' B gw gs c ce ct D E T av kv tv W :=
 ⟨h.blk.of (hb.block _ h.blk.lt), h.gB, h.dat.below hb, h.ok, by
  rcases h.map with e | ⟨mb, e, h1, h2⟩
  ·exact .inl e
  ·exact .inr ⟨mb, e, h1, h2.of (hb.block _ h2.lt)⟩, h.att.imp fun a b hr => ⟨hr.1, hr.2.below hb⟩, h.ext.below hb (x02 h.ext), x05 h.tol fun k hk => hb.block k (x02 h.tol k hk), h.els.imp fun a b hr => hr.below hb⟩
theorem x9Y {w : World} {B n : Nat} {v : Value} {bs : List Nat} (h : Own w B v n bs) : ∀ k ∈ rowOf v, ∃ cs, Blk w k 5 cs := fun k hk => x0G h (x00.1 hk)
theorem WkAt.data (h : WkAt w B gw gs c ce ct D E T av kv tv W) {D' : Option Addr} {n' c' : Nat} {d' : List Nat} (hb : Blk w' gw 139 ((workC D W.d.length c av E W.e.length ce W.th T W.told.length ct gs).setIfInBounds 0 (.slice D' n' c')))
  (hd : Own w' B (.slice D' n' c') n' d') (ho : Only (gw :: rowOf (.slice D W.d.length c)) w w') (hn : D' = D ∨ ∃ b, D' = some ⟨b, 0, none⟩ /\ w.heap.size <= b) (hs : Small d') : Wkd w' B gw gs {W with d := d'} := by
 have hl : n' = d'.length := by have := hd.len; omega
 subst hl
 have hG : ∀ (e : TypeId), e ≠ 139 -> e ≠ 5 -> ∀ k ∈ gw :: rowOf (.slice D W.d.length c), Odd w e k := fun e h1 h2 k hk => by
  rcases List.mem_cons.1 hk with rfl | hk
  ·exact Odd.blk h.blk h1.symm
  ·obtain ⟨cs, hb⟩ := x9Y h.dat k hk
   exact Odd.blk hb h2.symm
 have hF : ∀ k ∈ rowOf (.slice D' d'.length c'), k ∈ rowOf (.slice D W.d.length c) ∨ w.heap.size <= k := fun k hk => by
  rcases hn with rfl | ⟨b, rfl, hb⟩
  ·left
   have hk := x00.1 hk
   refine x00.2 ?_
   cases D' with
   | none => simp [Value.ownBlock] at hk
   | some a => simpa [Value.ownBlock] using hk
  ·right
   have hk := x00.1 hk
   simp [Value.ownBlock] at hk
   omega
 have hrow : ∀ {base : Nat} {u : Value} {bs : List Nat}, RowR w base (rowOf (.slice D W.d.length c)) u bs -> RowR w' base (rowOf (.slice D' d'.length c')) u bs := fun {base u bs} hr => by
  obtain ⟨A, c, e, h1, h2, h3⟩ := hr.far hF
  obtain ⟨A2, c2, e2, h4, h5, h6⟩ := hr.only ho (fun k hk => by
   rcases List.mem_cons.1 hk with rfl | hk
   ·exact .inr (Odd.blk h.blk (by decide))
   ·exact .inl hk)
  exact ⟨A, c, e, h4, h2, h3⟩
 refine ⟨c', ce, ct, D', E, T, av, kv, tv, ⟨hb, h.gB, hd, hs, ?_, h.att.imp fun a b hr => ⟨hr.1, hrow hr.2⟩, x0N h.ext ho (hG _ (by decide) (by decide)), x0N h.tol ho (hG _ (by decide) (by decide)), h.els.imp fun a b hr => hrow hr⟩⟩
 rcases h.map with e | ⟨mb, e, h1, h2⟩
 ·exact .inl e
 ·refine .inr ⟨mb, e, h1, h2.of (ho.block mb h2.lt fun hm => ?_)⟩
  rcases List.mem_cons.1 hm with rfl | hm
  ·exact h2.ne_blk h.blk rfl
  ·obtain ⟨cs, hb⟩ := x9Y h.dat mb hm
   exact h2.ne_blk hb rfl
theorem WkAt.tells (h : WkAt w B gw gs c ce ct D E T av kv tv W) {T' : Option Addr} {ct' : Nat} {v : Value} {bs : List Nat} (hb : Blk w' gw 139 ((workC D W.d.length c av E W.e.length ce W.th T W.told.length ct gs).setIfInBounds 4 (.slice T' (W.told.length + 1) ct')))
  (ho : Only (gw :: rowOf (.slice T W.told.length ct)) w w') (hT : w'.ownsRow B 35 1 (.slice T' (W.told.length + 1) ct') (W.told.length + 1) (tv ++ [v])) (hv : RowR w' B (rowOf (.slice D W.d.length c)) v bs) : Wkd w' B gw gs {W with told := W.told ++ [bs]} := by
 have hG : ∀ (e : TypeId), e ≠ 139 -> e ≠ 35 -> ∀ k ∈ gw :: rowOf (.slice T W.told.length ct), Odd w e k := fun e h1 h2 k hk => by
  rcases List.mem_cons.1 hk with rfl | hk
  ·exact Odd.blk h.blk h1.symm
  ·obtain ⟨cs, hb⟩ := x0G h.tol (x00.1 hk)
   exact Odd.blk hb h2.symm
 have hrow : ∀ {base : Nat} {u : Value} {bs : List Nat}, RowR w base (rowOf (.slice D W.d.length c)) u bs -> RowR w' base (rowOf (.slice D W.d.length c)) u bs := fun {base u bs} hr => hr.only ho fun k hk => .inr (hG _ (by decide) (by decide) k hk)
 have hlen : (W.told ++ [bs]).length = W.told.length + 1 := by simp
 refine ⟨c, ce, ct', D, E, T', av, kv, tv ++ [v], ⟨by simp only [hlen]; exact hb, h.gB, x0N h.dat ho (hG _ (by decide) (by decide)), h.ok, ?_, h.att.imp fun a b hr => ⟨hr.1, hrow hr.2⟩, x0N h.ext ho (hG _ (by decide) (by decide)), by simp only [hlen]; exact hT, (h.els.imp fun a b hr => hrow hr).app (.cons hv .nil)⟩⟩
 rcases h.map with e | ⟨mb, e, h1, h2⟩
 ·exact .inl e
 ·refine .inr ⟨mb, e, h1, h2.of (ho.block mb h2.lt fun hm => ?_)⟩
  rcases List.mem_cons.1 hm with rfl | hm
  ·exact h2.ne_blk h.blk rfl
  ·obtain ⟨cs, hb⟩ := x0G h.tol (x00.1 hm)
   exact h2.ne_blk hb rfl
theorem WkAt.attrs (h : WkAt w B gw gs c ce ct D E T av kv tv W) {mb : Nat} (hav : av = .map (some mb)) {kv' : KV} {a' : AL} (ho : Only [mb] w w') (hm : SMap Tryz.prog 9 w' mb kv') (ha : Rel2 (AttrR w' (rowOf (.slice D W.d.length c))) kv' a') : Wkd w' B gw gs {W with a := a'} := by
 obtain ⟨hB, h2⟩ : B <= mb /\ SMap Tryz.prog 9 w mb kv := by
  rcases h.map with ⟨e, _⟩ | ⟨mb', e, h1, h2⟩
  ·rw [e] at hav; cases hav
  ·rw [e] at hav
   injection hav with hav
   injection hav with hav
   subst hav
   exact ⟨h1, h2⟩
 have hG : ∀ (e : TypeId), ∀ k ∈ [mb], Odd w e k := fun e k hk => by
  simp at hk
  subst hk
  exact Odd.map h2
 exact ⟨c, ce, ct, D, E, T, av, kv', tv, ⟨h.blk.of (ho.block _ h.blk.lt fun hk => by simp at hk; exact h2.ne_blk h.blk hk.symm), h.gB, x0N h.dat ho (hG _), h.ok, .inr ⟨mb, hav, hB, hm⟩, ha, x0N h.ext ho (hG _), x0N h.tol ho (hG _), h.els.imp fun a b hr => hr.only ho fun k hk => .inr (hG _ k hk)⟩⟩
end
end
section
open Go.RowKit Go.BigFrame
def DM.up (b : Bool) (n : Nat) (f : Int -> Sec) (s l : Nat) : DM := ⟨n, f, [], s, b, l, false⟩
def others (w : World) (F : List Nat) : List Nat := (List.range w.heap.size).filter fun k => decide (k ∉ F)
theorem x11 {w : World} {F : List Nat} {k : Nat} : k ∈ others w F ↔ k < w.heap.size /\ k ∉ F := by simp [others]
def jf (gj : Nat) (vt : Value) (F : List Nat) : List Nat := gj :: (rowOf vt ++ F)
structure JX (w0 w : World) (g gj : Nat) (d : DM) (n gen : Nat) (st : List Nat) (txs : List (List Nat)) (u : Nat) (F : List Nat) (A : Option Addr) (c : Nat) (vt : Value) (us : List Value) : Prop where
 disk : DiskAt w w0.heap.size F g d
 bel : Below w0.heap.size w0 w
 sep : ∀ k ∈ txBlks vt us ++ (blkOf A ++ [gj]), k < w.heap.size /\ k ∉ F
 jb : Blk w gj 176 (jcells n g gen (.slice A st.length c) vt u false)
 own : Own w w0.heap.size (.slice A st.length c) st.length st
 tx : TxRows w w0.heap.size vt txs us
 gjN : w0.heap.size <= gj
theorem x2Z {w0 w : World} {g : Nat} {d : DM} {F : List Nat} (h1 : DiskAt w w0.heap.size F g d) (h2 : Below w0.heap.size w0 w) : Holds w0 w g d (others w F) :=
  ⟨F, h1, h2, fun k hk => ⟨(x11.1 hk).2, (x11.1 hk).1⟩⟩
theorem x4U {w0 w w' : World} {g : Nat} {d' : DM} {F G X : List Nat} (hb : Below w0.heap.size w0 w) (hX : ∀ k ∈ others w F, k ∈ X) (h : Holds w0 w' g d' X) (hs : w.heap.size <= w'.heap.size) (hk : ∀ k ∈ others w F, k ∉ G -> w'.heap[k]? = w.heap[k]?) :
  ∃ F', DiskAt w' w0.heap.size F' g d' /\ Below w0.heap.size w0 w' /\ Fresh w F F' /\ Only (G ++ F) w w' /\ ∀ k ∈ X, k < w'.heap.size /\ k ∉ F' := by
 obtain ⟨F', h1, h2, h3⟩ := h
 refine ⟨F', h1, h2, fun k hk' => ?_, ⟨h2.os.trans hb.os.symm, h2.tape.trans hb.tape.symm, h2.output.trans hb.output.symm, hs, fun k hl hn => ?_⟩, fun k hk' => ⟨(h3 k hk').2, (h3 k hk').1⟩⟩
 ·by_cases hF : k ∈ F
  ·exact .inl hF
  ·by_cases hl : k < w.heap.size
   ·exact absurd hk' (h3 k (hX k (x11.2 ⟨hl, hF⟩))).1
   ·exact .inr (by omega)
 ·rw [List.mem_append, not_or] at hn
  exact hk k (x11.2 ⟨hl, hn.2⟩) hn.1
section
variable {w0 w w' : World} {g gj n gen u c : Nat} {d : DM} {st : List Nat} {txs : List (List Nat)} {F : List Nat} {A : Option Addr} {vt : Value} {us : List Value}
theorem JX.gjO (h : JX w0 w g gj d n gen st txs u F A c vt us) : gj ∈ others w F := x11.2 (h.sep gj (by simp))
theorem JX.vtO (h : JX w0 w g gj d n gen st txs u F A c vt us) : ∀ k ∈ rowOf vt, k ∈ others w F := fun k hk => x11.2 (h.sep k (by simp [txBlks, hk]))
theorem JX.under (h : JX w0 w g gj d n gen st txs u F A c vt us) : ∀ k ∈ jf gj vt F, k < w.heap.size := fun k hk => by
 unfold jf at hk
 rw [List.mem_cons, List.mem_append] at hk
 rcases hk with rfl | hk | hk
 ·exact (x11.1 h.gjO).1
 ·exact (x11.1 (h.vtO k hk)).1
 ·obtain ⟨gm, v, e, hl⟩ := h.disk
  have := h.disk.under k hk
  exact this
theorem JX.below (h : JX w0 w g gj d n gen st txs u F A c vt us) (hb : Below w.heap.size w w') : JX w0 w' g gj d n gen st txs u F A c vt us :=
  ⟨h.disk.of (x24 hb h.disk.under), h.bel.trans (hb.mono h.bel.size), fun k hk => ⟨Nat.lt_of_lt_of_le (h.sep k hk).1 hb.size, (h.sep k hk).2⟩, h.jb.below hb h.jb.lt, h.own.below hb, h.tx.of (fun k hk => hb.block k (h.tx.over k hk).2), h.gjN⟩
theorem JX.append (h : JX w0 w g gj d n gen st txs u F A c vt us) (hn : n <= 4096) (hgen : gen <= 4611686018427387904) (hu : u <= logOf n) (B : Option Addr) (cb : Nat) (tx : List Nat) (hst : Bytes w w.heap.size B tx.length tx) (hl : tx.length <= 20000) (hlc : tx.length <= cb) (hcm : cb <= 9223372036854775807) (hne : tx ≠ []) (hfit : pn tx + 1 <= logOf n - u)
  (hT : Tab w) (hw0 : 0 < w0.heap.size) (hB : ∀ k ∈ blkOf B, k < w.heap.size /\ k ∉ F) (hf : Far d (pn tx + 3)) (hok : (d.app n gen u tx).2 = 0) (hnt : txs.length <= 100000) :
  Calls Tryz.prog 158 #[.pointer (some ⟨gj, 0, none⟩), .slice B tx.length cb] w fun e w' => e = .returned .nilIface /\ ∃ F' vt' us', JX w0 w' g gj (d.app n gen u tx).1 n gen st (txs ++ [tx]) (u + pn tx + 1) F' A c vt' us' /\ Only (jf gj vt F) w w' /\ Fresh w (jf gj vt F) (jf gj vt' F') := by
 refine (xF5 (x2Z h.disk h.bel) h.jb h.gjO h.gjN hn hgen hu B cb tx hst hl hlc hcm hne hfit hT hw0 (fun k hk => x11.2 (hB k hk)) hf hok txs.length us h.tx.1 hnt h.vtO).mono ?_
 rintro e w' ⟨vt', B', cc, rfl, r1, r2, r3, r4, r5, r6, r7⟩
 obtain ⟨F', x1, x2, x3, x4, x5⟩ := x4U (G := gj :: rowOf vt) (F := F) h.bel (fun k hk => by simp [hk]) r1 r6 (fun k hk hn => by
  rw [List.mem_cons, not_or] at hn
  exact r5 k hk hn.1 hn.2)
 have hO : ∀ k ∈ txBlks vt us ++ (blkOf A ++ [gj]), k ∈ others w F := fun k hk => x11.2 (h.sep k hk)
 have hsame : ∀ {v : Value} {m : Nat} {bs : List Nat}, Own w w0.heap.size v m bs -> (∀ k ∈ rowOf v, k ∈ txBlks vt us ++ (blkOf A ++ [gj])) -> Own w' w0.heap.size v m bs := fun {v m bs} hv hin =>
  x05 hv (fun k hk => r5 k (hO k (hin k hk)) (fun e => by
   subst e
   exact x10 hv h.jb (by decide) (x00.1 hk)) (fun hk' => x5V hv h.tx.1 (by decide) k hk (x00.1 hk')))
 refine ⟨rfl, F', vt', us ++ [.slice B' tx.length cc], ⟨x1, x2, fun k hk => x5 k ?_, r2, hsame h.own (fun k hk => by simp [x4S _ _ _ hk]), ⟨by rw [List.length_append]; exact r3, by simp [h.tx.2.1], fun i t hi => ?_⟩, h.gjN⟩, x4, fun k hk => ?_⟩
 ·simp only [txBlks, List.mem_append, List.mem_cons, List.flatMap_append, List.flatMap_cons, List.flatMap_nil, List.append_nil, List.not_mem_nil, or_false] at hk hO ⊢
  rcases hk with (hk | hk | hk) | hk | hk
  ·exact .inr (.inl hk)
  ·exact .inr (.inr (hO k (.inl (.inr hk))))
  ·exact .inl (x4S _ _ _ hk)
  ·exact .inr (.inr (hO k (.inr (.inl hk))))
  ·exact .inr (.inr (hO k (.inr (.inr hk))))
 ·by_cases hlt : i < txs.length
  ·rw [List.getElem?_append_left hlt] at hi
   obtain ⟨B1, c1, e1, e2⟩ := h.tx.2.2 i t hi
   exact ⟨B1, c1, by rw [List.getElem?_append_left (by have := h.tx.2.1; omega)]; exact e1, hsame e2 (fun k hk => List.mem_append_left _ (List.mem_append_right _ (List.mem_flatMap.2 ⟨_, List.mem_of_getElem? e1, hk⟩)))⟩
  ·rw [List.getElem?_append_right (by omega)] at hi
   have h0 : i - txs.length = 0 := by
    rcases Nat.eq_zero_or_pos (i - txs.length) with h0 | h0
    ·exact h0
    ·rw [List.getElem?_eq_none (by simp; omega)] at hi; cases hi
   rw [h0] at hi
   simp at hi
   subst hi
   exact ⟨B', cc, by rw [List.getElem?_append_right (by have := h.tx.2.1; omega), h.tx.2.1, h0]; rfl, r4.weaken h.bel.size⟩
 ·unfold jf at hk ⊢
  rw [List.mem_cons, List.mem_append] at hk ⊢
  rcases hk with rfl | hk | hk
  ·exact .inl (.inl rfl)
  ·rcases r7 k hk with h | h
   ·exact .inl (.inr (.inl h))
   ·exact .inr h
  ·rcases x3 k hk with h | h
   ·exact .inl (.inr (.inr h))
   ·exact .inr h
theorem JX.checkpoint {st' : List Nat} (h : JX w0 w g gj d n gen st txs u F A c vt us) (hn : n <= 4096) (hgen : gen + 1 <= 4611686018427387904) (B : Option Addr) (cb : Nat) (hst : Bytes w w.heap.size B st'.length st') (hl : st'.length <= 20000) (hlc : st'.length <= cb) (hcm : cb <= 9223372036854775807) (hfit : pn st' <= areaOf n)
  (hT : Tab w) (hw0 : 0 < w0.heap.size) (hB : ∀ k ∈ blkOf B, k < w.heap.size /\ k ∉ F) (hf : Far d (pn st' + 3)) (hok : (d.ckpt n (gen + 1) st').2 = 0) :
  Calls Tryz.prog 157 #[.pointer (some ⟨gj, 0, none⟩), .slice B st'.length cb] w fun e w' => e = .returned .nilIface /\ ∃ F' A' c', JX w0 w' g gj (d.ckpt n (gen + 1) st').1 n (gen + 1) st' [] 0 F' A' c' (.slice none 0 0) [] /\ Only (jf gj vt F) w w' /\ Fresh w (jf gj vt F) (jf gj (.slice none 0 0) F') := by
 refine (x9G (x2Z h.disk h.bel) h.jb h.gjO h.gjN hn hgen B cb st' hst hl hlc hcm hfit hT hw0 (fun _ k hk => x11.2 (hB k hk)) hf hok).mono ?_
 rintro e w' ⟨B', cc, rfl, r1, r2, r3, r4, r5, r6⟩
 obtain ⟨F', x1, x2, x3, x4, x5⟩ := x4U (G := gj :: rowOf vt) (F := F) h.bel (fun k hk => by simp [hk]) r1 r6 (fun k hk hn => by
  rw [List.mem_cons, not_or] at hn
  exact r5 k hk hn.1)
 have hgO := h.gjO
 refine ⟨rfl, F', B', cc, ⟨x1, x2, fun k hk => x5 k ?_, r3, r4.weaken h.bel.size, TxRows.nil _ _, h.gjN⟩, x4, fun k hk => ?_⟩
 ·simp only [txBlks, rowOf, Value.ownBlock, Option.toList, List.flatMap_nil, List.append_nil, List.nil_append, List.mem_append, List.mem_cons, List.not_mem_nil, or_false] at hk ⊢
  rcases hk with hk | rfl
  ·exact .inl hk
  ·exact .inr hgO
 ·unfold jf at hk ⊢
  rw [List.mem_cons, List.mem_append] at hk ⊢
  rcases hk with rfl | hk | hk
  ·exact .inl (.inl rfl)
  ·simp [rowOf, Value.ownBlock] at hk
  ·rcases x3 k hk with h | h
   ·exact .inl (.inr (.inr h))
   ·exact .inr h
theorem JX.format {st : List Nat} (hd : DiskAt w w0.heap.size F g d) (hb : Below w0.heap.size w0 w) (hdn : d.n = n) (hn : n <= 4096) (hn8 : 8 <= n) (B : Option Addr) (cb : Nat) (hst : Bytes w w.heap.size B st.length st) (hl : st.length <= 20000) (hlc : st.length <= cb) (hcm : cb <= 9223372036854775807) (hfit : pn st <= areaOf n)
  (hT : Tab w) (hw0 : 0 < w0.heap.size) (hB : ∀ k ∈ blkOf B, k < w.heap.size /\ k ∉ F) (hf : Far d (pn st + 6)) (hok1 : (d.putRow 0 [Sec.zero, Sec.zero]).2 = 0) (hok2 : ((d.putRow 0 [Sec.zero, Sec.zero]).1.ckpt n 1 st).2 = 0) :
  Calls Tryz.prog 53 #[.pointer (some ⟨g, 0, none⟩), .slice B st.length cb] w fun e w' => ∃ gj A' c' F', e = .returned (.tuple #[.pointer (some ⟨gj, 0, none⟩), .nilIface]) /\ JX w0 w' g gj ((d.putRow 0 [Sec.zero, Sec.zero]).1.ckpt n 1 st).1 n 1 st [] 0 F' A' c' (.slice none 0 0) [] /\ Only F w w' /\ Fresh w F F' /\ w.heap.size <= gj := by
 refine (xF3 (x2Z hd hb) hdn hn hn8 B cb st hst hl hlc hcm hfit hT hw0 (fun k hk => x11.2 (hB k hk)) hf hok1 hok2).mono ?_
 rintro e w' ⟨gj, B', cc, rfl, r1, r2, r3, r4, r5, r6⟩
 obtain ⟨F', x1, x2, x3, x4, x5⟩ := x4U (G := []) (F := F) hb (fun k hk => by simp [hk]) r1 r4.1 (fun k hk _ => r4.2 k hk)
 refine ⟨gj, B', cc, F', rfl, ⟨x1, x2, fun k hk => x5 k ?_, r2, r3.weaken hb.size, TxRows.nil _ _, by have := hb.size; omega⟩, by simpa using x4, x3, r5⟩
 simp only [txBlks, rowOf, Value.ownBlock, Option.toList, List.flatMap_nil, List.append_nil, List.nil_append, List.mem_append, List.mem_cons, List.not_mem_nil, or_false] at hk ⊢
 rcases hk with hk | rfl
 ·exact .inl hk
 ·exact .inr (.inl rfl)
end
end
section
open Go.RowKit Go.BigFrame Go.Shelf
section
variable {P : Program} {ops : Array Oper} {rest : List Oper} {o : Oper} {a : Act} {w : World} {Q : Exit -> Act -> World -> Prop}
theorem x4O (hgd : o.guard = none) (ty : TypeId) (x y : Operand) (ho : o.op = .store ty x y)
  (g i : Nat) (t : TypeId) (cs : Array Value) (v : Value) (hx : a.eval x = .pointer (some ⟨g, i, none⟩)) (hy : a.eval y = v) (hB : Blk w g t cs) (hs : i < cs.size) (hi : (P.info? ty).map (·.size) = some 1) (h1 : v.oneCell' = true)
  (h : ∀ w', Blk w' g t (cs.setIfInBounds i v) -> Only [g] w w' -> w'.heap.size = w.heap.size -> wpList P ops Q rest (a.put o.dst undef) w') : wpList P ops Q (o :: rest) a w :=
 wpList_plain hgd fun _ hK => x2L ty x y ho g i t cs v hx hy hB hs hi h1 (hK _ _ (h _ (hB.set_ i v) ((Only.refl _ _).setCell (.inl (by simp)) _) (by simp [World.setCell])))
theorem x6A (hgd : o.guard = none) (ty : TypeId) (x y : Operand) (ho : o.op = .store ty x y)
  (g : Nat) (t : TypeId) (u0 u1 u2 x0 x1 x2 x3 x4 x5 : Value) (hx : a.eval x = .pointer (some ⟨g, 0, none⟩)) (hy : a.eval y = .agg #[u0, u1, u2]) (hB : Blk w g t #[x0, x1, x2, x3, x4, x5]) (hi : (P.info? ty).map (·.size) = some 3) (h1 : u0.oneCell' = true) (h2 : u1.oneCell' = true) (h3 : u2.oneCell' = true)
  (h : ∀ w', Blk w' g t #[u0, u1, u2, x3, x4, x5] -> Only [g] w w' -> w'.heap.size = w.heap.size -> wpList P ops Q rest (a.put o.dst undef) w') : wpList P ops Q (o :: rest) a w :=
 wpList_store_mid hgd ty x y ho g 0 #[u0, u1, u2] hx hy (hB.there (by simp)) (by simpa using hi) (by simp [h1, h2, h3])
  (h _ (by simpa [World.setCells] using ((hB.set_ 0 u0).set_ 1 u1).set_ 2 u2) ((Only.refl _ _).grown (x0F g _ 0 w).1 (fun k e => .inl (by injection e with e; simp [e]))) (x0F g _ 0 w).2)
end
theorem xH8 (A : Option Addr) (n c : Nat) (bs : List Nat) (w : World) (B : Nat) (hn : n <= 10000000) (hb : Bytes w B A n bs) :
    Calls Tryz.prog 161 #[.slice A n c] w fun e w' => ∃ A2 c2, e = .returned (.slice A2 n c2) /\ Own w' w.heap.size (.slice A2 n c2) n bs /\ Below w.heap.size w w' := by
  have hnil := xB1 A n c
  rcases A with _ | ad
  · have hn0 : n = 0 := by
      rcases Nat.eq_zero_or_pos n with h | h
      · exact h
      · obtain ⟨_, h, _⟩ := hb.1.2 h; cases h
    subst hn0
    obtain rfl : bs = [] := List.eq_nil_of_length_eq_zero hb.len
    simp only [Option.isNone_none] at hnil
    go_enter Tryz.func161, Tryz.ntmps161
    go_wp2
    go_ret
    exact ⟨_, _, rfl, Own.nil _ _, Below.refl _ _⟩
  · simp only [Option.isNone_some] at hnil
    have hb1 := hb.since (x0D w (.cells #[] 5))
    go_enter Tryz.func161, Tryz.ntmps161
    go_wp2_with (refine x2U (.tmp 5) (.tmp 6) rfl rfl w.heap.size (.slice (some ⟨w.heap.size, 0, none⟩) 0 0) 0 [] rfl (Own.new w w.heap.size (Nat.le_refl _)) B (some ad) n c bs rfl hb1 (by omega) (by simp) ?_
                 intro v2 w2 h2 g2 a2)
    go_ret
    have hb2 := xAX (x0D w _) (Own.new w w.heap.size (Nat.le_refl _)) (Nat.le_refl _) g2 (by simp)
    rw [Nat.zero_add, List.nil_append] at h2
    obtain ⟨A2, c2, rfl, -⟩ := h2.form
    exact ⟨A2, c2, rfl, h2, hb2⟩
set_option maxHeartbeats 1000000 in
theorem xHG {w : World} {B c : Nat} {A : Option Addr} {es : List (Int × Int)} (hl : es.length <= 1000000) (hR : ExtR w B A es) (hB : B <= w.heap.size) :
    Calls Tryz.prog 163 #[.slice A es.length c] w fun e w' => ∃ A2 c2, e = .returned (.slice A2 es.length c2) /\ OwnE w' w.heap.size (.slice A2 es.length c2) es /\ Below w.heap.size w w' := by
  have qT : ∀ (w : World) (a : Option Addr) (n c n' c' : Nat), (binOp .eql 135 (.slice a n c) (.slice none n' c')).run Tryz.prog w = .ok (.bool a.isNone) w := fun w a n c n' c' => Lib.run_eql_slice_nil w _ _ a n c n' c' Tryz.underlying135
  rcases A with _ | ad
  · have h0 : es = [] := by
      rcases Nat.eq_zero_or_pos es.length with h | h
      · exact List.eq_nil_of_length_eq_zero h
      · obtain ⟨ad, e, _⟩ := hR.2 h
        cases e
    subst h0
    go_enter Tryz.func163, Tryz.ntmps163
    go_wp2
    go_ret
    exact ⟨_, _, rfl, OwnE.nil w _, Below.refl _ _⟩
  · have HR := kH hR
    have hbs : ∀ w : World, (Instr.buildSlice 135 0 #[]).run Tryz.prog w = .ok (.slice (some ⟨w.heap.size, 0, none⟩) 0 0) (w.alloc (.cells #[] 198)) := fun w => by kernel_rfl
    have hown : (w.alloc (.cells #[] 198)).ownsRow w.heap.size 198 2 (.slice (some ⟨w.heap.size, 0, none⟩) 0 0) 0 [] := by
      have := World.ownsRow_made (base := w.heap.size) (e := 198) (size := 2) w #[] 0 (Nat.le_refl _) (by simp [maxLen]) (by simp)
      simpa using this
    have HO := kH hown
    have HB := kH (Below.alloc (Below.refl w.heap.size w) (Nat.le_refl _) (.cells #[] 198))
    obtain ⟨i0, hi0, hz0, hz1, hz2⟩ := info_parts x36
    clear hR hown
    go_enter Tryz.func163, Tryz.ntmps163
    go_wp2_with (refine x0X _ rfl (.tmp 5) (.tmp 6) _ rfl w.heap.size 198 i0 _ 2 16 Tryz.underlying135 hi0 hz0 hz1 hz2 rfl (by omega) (.slice (some ⟨w.heap.size, 0, none⟩) 0 0) 0 [] rfl HO.out B (some ad) es.length c (extS es) rfl (HR.out.alloc hB _) (x3Y _) (by simp [maxLen]; omega) (by omega) (by simp) ?_; intro v2 w2 h2 g2 a2)
    have hb2 : Below w.heap.size w w2 := HB.out.grown g2 (by simp) (fun j hj => by simp [Value.ownBlock] at hj; omega)
    have H2 := kH (kA h2 hb2)
    clear h2 hb2 g2 a2
    go_wp2
    go_ret
    have h3 := H2.out.1
    simp only [Nat.zero_add, List.nil_append] at h3
    obtain ⟨A2, c2, rfl, -⟩ := OwnE.form (show OwnE w2 w.heap.size v2 es from h3)
    exact ⟨A2, c2, rfl, h3, H2.out.2⟩
theorem SMap.cloned {P : Program} {kt : TypeId} {w : World} {b : Nat} {l : KV} (h : SMap P kt w b l) : ∃ es clock, w.heap[b]? = some (.map es clock) /\ SMap P kt (w.alloc (.map es clock)) w.heap.size l := by
 obtain ⟨es, c, h1, h2, h3⟩ := h
 exact ⟨es, c, h1, ⟨es, c, heap_alloc_new w _, h2, h3⟩⟩
theorem xEY {w : World} {b : Nat} {l : KV} (h : SMap Tryz.prog 9 w b l) :
  Calls Tryz.prog 162 #[.map (some b)] w fun e w' => e = .returned (.map (some w.heap.size)) /\ SMap Tryz.prog 9 w' w.heap.size l /\ Below w.heap.size w w' := by
 obtain ⟨es, clock, h1, h2⟩ := h.cloned
 have hq := fun w => run_eql_map_nil_sl (P := Tryz.prog) w 134 _ _ (some b) Tryz.underlying134
 have H1 := kH h1
 have H2 := kH h2
 clear h1 h2 h
 go_enter Tryz.func162, Tryz.ntmps162
 go_wp2
 rw [run_callFunc_extern Tryz.func150 (by kernel_rfl) (by kernel_rfl) (by kernel_rfl) (e := Extern.MapsClone.clone) (by kernel_rfl), run_maps_clone_sl w 134 H1.out]
 simp only [Result.andThen]
 rw [Oper.upon_value]
 go_wp2
 rw [run_typeAssert_map_sl _ 134 20 _ _ _ Tryz.underlying134]
 simp only [Result.andThen]
 rw [Oper.upon_value]
 go_wp2
 go_ret
 exact ⟨rfl, H2.out, (Below.refl _ _).alloc (Nat.le_refl _) _⟩
theorem xEH {w : World} {b : Nat} {l : KV} (h : SMap Tryz.prog 9 w b l) :
  Calls Tryz.prog 98 #[.map (some b)] w fun e w' => e = .returned (.map (some w.heap.size)) /\ SMap Tryz.prog 9 w' w.heap.size l /\ Below w.heap.size w w' := by
 obtain ⟨es, clock, h1, h2⟩ := h.cloned
 have hq := fun w => run_eql_map_nil_sl (P := Tryz.prog) w 118 _ _ (some b) Tryz.underlying118
 have H1 := kH h1
 have H2 := kH h2
 clear h1 h2 h
 go_enter Tryz.func98, Tryz.ntmps98
 go_wp2
 rw [run_callFunc_extern Tryz.func150 (by kernel_rfl) (by kernel_rfl) (by kernel_rfl) (e := Extern.MapsClone.clone) (by kernel_rfl), run_maps_clone_sl w 118 H1.out]
 simp only [Result.andThen]
 rw [Oper.upon_value]
 go_wp2
 rw [run_typeAssert_map_sl _ 118 20 _ _ _ Tryz.underlying118]
 simp only [Result.andThen]
 rw [Oper.upon_value]
 go_wp2
 go_ret
 exact ⟨rfl, H2.out, (Below.refl _ _).alloc (Nat.le_refl _) _⟩
end
section
open Go.RowKit Go.BigFrame
def LikeTo (w : World) (o : Ob) (kv : KV) (e : Ending) (w' : World) : Prop := ∃ D c mb E ce, e = .returned (.agg (objC D o.d.length c (.map (some mb)) E o.e.length ce)) /\ Own w' w.heap.size (.slice D o.d.length c) o.d.length o.d /\ SMap Tryz.prog 9 w' mb kv /\ w.heap.size <= mb /\ OwnE w' w.heap.size (.slice E o.e.length ce) (natE o.e) /\ Rel2 (AttrR w' (rowOf (.slice D o.d.length c))) kv o.a /\ Below w.heap.size w w'
theorem ObAt.bytes {w : World} {go mb c ce : Nat} {D E : Option Addr} {kv : KV} {o : Ob} (h : ObAt w go mb c ce D E kv o) : Bytes w w.heap.size D o.d.length o.d := h.dat.bytes h.ok
theorem x0R (l : List (Nat × Nat)) : (natE l).length = l.length := by simp [natE]
set_option maxHeartbeats 2000000 in
theorem xKM {w : World} {go mb c ce : Nat} {D E : Option Addr} {kv : KV} {o : Ob} (h : ObAt w go mb c ce D E kv o) (hd : o.d.length <= 1000000) (he : o.e.length <= 1000000) :
  Calls Tryz.prog 113 #[.pointer (some ⟨go, 0, none⟩)] w (LikeTo w o kv) := by
 have HH := kH h
 have HC : Hid (∀ w', Blk w' go 137 (objC D o.d.length c (.map (some mb)) E o.e.length ce) -> w'.cell? ⟨go, 0, none⟩ = some (.slice D o.d.length c) /\ w'.cell? ⟨go, 1, none⟩ = some (.map (some mb)) /\ w'.cell? ⟨go, 2, none⟩ = some (.slice E o.e.length ce)) := kH fun w' h => ⟨h.cell 0, h.cell 1, h.cell 2⟩
 obtain ⟨Zs, hZ, hZs⟩ : ∃ Zs : Array Value, (∀ w, (zeroValue 137).run Tryz.prog w = .ok (.agg Zs) w) /\ Zs.size = 3 := ⟨#[.slice none 0 0, .map none, .slice none 0 0], fun w => by kernel_rfl, rfl⟩
 clear h
 go_enter Tryz.func113, Tryz.ntmps113
 go_upto_region 1 with (fail)
 obtain ⟨w0, hw0⟩ : ∃ w0, w0 = w.alloc (.cells Zs 137) := ⟨_, rfl⟩
 have hbel : Below w.heap.size w w0 := by rw [hw0]; exact (Below.refl _ _).alloc (Nat.le_refl _) _
 have K0 : Blk w0 w.heap.size 137 Zs := by rw [hw0]; exact Blk.new w _ _
 have hO0 : ObAt w0 go mb c ce D E kv o := HH.out.below hbel
 rw [<- hw0]
 have hS : Blk w0.drew go 137 (objC D o.d.length c (.map (some mb)) E o.e.length ce) := hO0.blk.drew
 refine x09 (fun w' => Blk w' go 137 (objC D o.d.length c (.map (some mb)) E o.e.length ce)) 16 (by kernel_rfl) ?_
 refine tL (i := 0) (v := .pointer (some ⟨go, 0, none⟩)) rfl rfl (by kernel_rfl) (by rfl) (fun w hw => by kernel_rfl) hS ?_
 simp only [Act.put, nB, nC, nD, nE, nF, nG]
 refine tL (i := 1) (v := .pointer (some ⟨go, 0, none⟩)) rfl rfl (by kernel_rfl) (by rfl) (fun w hw => by kernel_rfl) hS ?_
 simp only [Act.put, nB, nC, nD, nE, nF, nG]
 refine tL (i := 2) (v := .pointer (some ⟨go, 0, none⟩)) rfl rfl (by kernel_rfl) (by rfl) (fun w hw => by go_simp) hS ?_
 simp only [Act.put, nB, nC, nD, nE, nF, nG]
 refine tL (i := 3) (v := .slice D o.d.length c) rfl rfl (by kernel_rfl) (by rfl) (fun w hw => by have q := (HC.out w hw).1; go_simp) hS ?_
 simp only [Act.put, nB, nC, nD, nE, nF, nG]
 refine tL (i := 5) (v := .pointer (some ⟨go, 0, none⟩)) rfl rfl (by kernel_rfl) (by rfl) (fun w hw => by kernel_rfl) hS ?_
 simp only [Act.put, nB, nC, nD, nE, nF, nG]
 refine tL (i := 6) (v := .pointer (some ⟨go, 0, none⟩)) rfl rfl (by kernel_rfl) (by rfl) (fun w hw => by kernel_rfl) hS ?_
 simp only [Act.put, nB, nC, nD, nE, nF, nG]
 refine tL (i := 7) (v := .pointer (some ⟨go, 1, none⟩)) rfl rfl (by kernel_rfl) (by rfl) (fun w hw => by go_simp) hS ?_
 simp only [Act.put, nB, nC, nD, nE, nF, nG]
 refine tL (i := 8) (v := .map (some mb)) rfl rfl (by kernel_rfl) (by rfl) (fun w hw => by have q := (HC.out w hw).2.1; go_simp) hS ?_
 simp only [Act.put, nB, nC, nD, nE, nF, nG]
 refine tL (i := 10) (v := .pointer (some ⟨go, 0, none⟩)) rfl rfl (by kernel_rfl) (by rfl) (fun w hw => by kernel_rfl) hS ?_
 simp only [Act.put, nB, nC, nD, nE, nF, nG]
 refine tL (i := 11) (v := .pointer (some ⟨go, 0, none⟩)) rfl rfl (by kernel_rfl) (by rfl) (fun w hw => by kernel_rfl) hS ?_
 simp only [Act.put, nB, nC, nD, nE, nF, nG]
 refine tL (i := 12) (v := .pointer (some ⟨go, 2, none⟩)) rfl rfl (by kernel_rfl) (by rfl) (fun w hw => by go_simp) hS ?_
 simp only [Act.put, nB, nC, nD, nE, nF, nG]
 refine tL (i := 13) (v := .slice E o.e.length ce) rfl rfl (by kernel_rfl) (by rfl) (fun w hw => by have q := (HC.out w hw).2.2; go_simp) hS ?_
 simp only [Act.put, nB, nC, nD, nE, nF, nG]
 refine x01 (j := 4) (by kernel_rfl) rfl (by rfl) ?_
 simp only [Act.put, nB, nC, nD, nE, nF, nG]
 refine x03 (by kernel_rfl) (xH8 D o.d.length c o.d w0.drew w0.heap.size (by omega) (hO0.bytes.drew)) ?_
 rintro e w1 ⟨D2, c2, rfl, ho2, hb2⟩
 have hO1 : ObAt w1 go mb c ce D E kv o := (hO0.below (w' := w0.drew) (x08 (Below.refl _ _) 1)).below hb2
 refine ⟨_, rfl, hO1.blk, ?_⟩
 simp only [Act.put, nB, nC, nD, nE, nF, nG]
 refine x01 (j := 9) (by kernel_rfl) rfl (by rfl) ?_
 simp only [Act.put, nB, nC, nD, nE, nF, nG]
 refine x03 (by kernel_rfl) (xEY hO1.map) ?_
 rintro e w2 ⟨rfl, hm2, hb3⟩
 have hO2 : ObAt w2 go mb c ce D E kv o := hO1.below hb3
 refine ⟨_, rfl, hO2.blk, ?_⟩
 simp only [Act.put, nB, nC, nD, nE, nF, nG]
 refine x01 (j := 14) (by kernel_rfl) rfl (by rfl) ?_
 simp only [Act.put, nB, nC, nD, nE, nF, nG]
 have hcl := xHG (c := ce) (es := natE o.e) (by rw [x0R]; exact he) (OwnE.ext (by rw [x0R]; exact hO2.ext)) (Nat.le_refl _)
 rw [x0R] at hcl
 refine x03 (by kernel_rfl) hcl ?_
 rintro e w3 ⟨E2, ce2, rfl, he2, hb4⟩
 have hO3 : ObAt w3 go mb c ce D E kv o := hO2.below hb4
 refine ⟨_, rfl, hO3.blk, ?_⟩
 simp only [Act.put, nB, nC, nD, nE, nF, nG]
 refine x01 (j := 15) (by kernel_rfl) rfl (by rfl) ?_
 simp only [Act.put, nB, nC, nD, nE, nF, nG]
 refine x0B (v := .agg (objC D2 o.d.length c2 (.map (some w1.heap.size)) E2 o.e.length ce2)) (w' := w3) (by kernel_rfl) ⟨hO3.blk, ?_⟩
 simp only [Act.put, nB, nC, nD, nE, nF, nG]
 refine x1V (by kernel_rfl) rfl (by rfl) (by kernel_rfl) ?_
 simp only [Act.put, nB, nC, nD, nE, nF, nG]
 have hz1 := hb2.size
 have hz2 := hb3.size
 have hz3 := hb4.size
 have hz0 := hbel.size
 have hk0 := K0.lt
 have e0 : w0.drew.heap.size = w0.heap.size := rfl
 have K3 : Blk w3 w.heap.size 137 Zs := ((K0.drew.of (hb2.block _ (by omega))).of (hb3.block _ (by omega))).of (hb4.block _ (by omega))
 refine wp_store_mid 137 _ _ (by rfl) w.heap.size 0 (objC D2 o.d.length c2 (.map (some w1.heap.size)) E2 o.e.length ce2) (by rfl) (by rfl) (K3.there (by simp [objC, hZs])) (by kernel_rfl) (by simp [objC, Value.oneCell']) ?_
 refine NoPanic.normal ?_
 have hov := K3.over (objC D2 o.d.length c2 (.map (some w1.heap.size)) E2 o.e.length ce2).toList (by simp [objC, hZs])
 obtain ⟨w4, hw4⟩ : ∃ w4, w4 = w3.setCells w.heap.size 0 (objC D2 o.d.length c2 (.map (some w1.heap.size)) E2 o.e.length ce2).toList := ⟨_, rfl⟩
 have hon : Only [w.heap.size] w3 w4 := by rw [hw4]; exact (Only.refl _ _).grown (x0F _ _ 0 w3).1 (fun k e => .inl (by injection e with e; simp [e]))
 have K4 : Blk w4 w.heap.size 137 (objC D2 o.d.length c2 (.map (some w1.heap.size)) E2 o.e.length ce2) := by rw [hw4]; exact hov
 rw [<- hw4]
 have hb1 : Below w.heap.size w w1 := x0K (w := w) (show Below w.heap.size w.drew w1 from (show Below w.heap.size w.drew w0.drew from ⟨hbel.os, hbel.tape, hbel.output, hbel.size, hbel.block⟩).trans (hb2.mono (by omega)))
 have hfin : LikeTo w o kv (.returned (.agg (objC D2 o.d.length c2 (.map (some w1.heap.size)) E2 o.e.length ce2))) w4 := by
  have ho3 : Own w3 w0.heap.size (.slice D2 o.d.length c2) o.d.length o.d := (ho2.below hb3).below hb4
  have hGb : ∀ (e : TypeId), e ≠ 137 -> ∀ k ∈ [w.heap.size], Odd w3 e k := fun e h1 k hk => by
   simp at hk; subst hk; exact Odd.blk K3 h1.symm
  refine ⟨D2, c2, w1.heap.size, E2, ce2, rfl, x0A (x0N ho3 hon (hGb _ (by decide))) (by omega), ?_, by omega, x0A (x0N he2 hon (hGb _ (by decide))) (by omega), ?_, ?_⟩
  ·have hm3 := hm2.of (hb4.block _ hm2.lt)
   exact hm3.of (hon.block _ hm3.lt (by simp; omega))
  ·refine hO0.att.imp fun a b hr => ⟨hr.1, ?_⟩
   have h1 : RowR w0.drew 0 [] a.2 b.2 := hr.2
   have h2 := h1.far (F' := rowOf (.slice D2 o.d.length c2)) (fun k hk => .inr (x0I ho2 k hk))
   exact (((h2.below hb2).below hb3).below hb4).only hon (fun k hk => .inr (hGb _ (by decide) k hk))
  ·have h3 : Below w.heap.size w w3 := (hb1.trans (hb3.mono (by omega))).trans (hb4.mono (by omega))
   exact h3.trans (hon.below (fun k hk => by simp at hk; omega) (by omega))
 have HFIN := kH hfin
 clear hfin hO0 hO1 hO2 hO3 hm2 hb1 hb2 hb3 hb4 he2 hcl hon hov K0 K3 hS hbel ho2
 go_wp2
 refine bodyPost_ret (results_cell_row rfl _ _ w.heap.size 137 (objC D2 o.d.length c2 (.map (some w1.heap.size)) E2 o.e.length ce2) (0, 0) _ rfl K4 Tryz.underlying137 rfl (by kernel_rfl)) rfl ?_
 exact HFIN.out
def ObR (w : World) (Z : List Nat) (v : Value) (o : Ob) : Prop := ∃ go mb c ce D E kv, v = .pointer (some ⟨go, 0, none⟩) /\ mb ∉ Z /\ ObAt w go mb c ce D E kv o
def ObjR (w : World) (Z : List Nat) (p : Key × Value) (q : Key × Ob) : Prop := p.1 = q.1 /\ ObR w Z p.2 q.2
theorem ObjR.key {w : World} {Z : List Nat} (p : Key × Value) (q : Key × Ob) (h : ObjR w Z p q) : p.1 = q.1 := h.1
structure StoreAt (w : World) (Z : List Nat) (gs ms gp r c : Nat) (A : Option Addr) (M : Mod) (kv : KV) : Prop where
 st : StAt w gs ms gp r c A M.bl M.fl kv
 obs : Rel2 (ObjR w Z) kv M.ob
theorem StAt.below {w w' : World} {gs ms gp r c : Nat} {A : Option Addr} {bl fl : List Bool} {kv : KV} (h : StAt w gs ms gp r c A bl fl kv) (hb : Below w.heap.size w w') : StAt w' gs ms gp r c A bl fl kv :=
  ⟨h.blk.of (hb.block _ h.blk.lt), h.len, h.map.of (hb.block _ h.map.lt), h.sp.of (hb.block _ h.sp.blk.lt) (fun _ _ hx => hb.block _ hx.lt), h.ne⟩
theorem ObR.below {w w' : World} {Z : List Nat} {v : Value} {o : Ob} (h : ObR w Z v o) (hb : Below w.heap.size w w') : ObR w' Z v o := by
 obtain ⟨go, mb, c, ce, D, E, kv, rfl, h1, h2⟩ := h
 exact ⟨go, mb, c, ce, D, E, kv, rfl, h1, h2.below hb⟩
theorem StoreAt.below {w w' : World} {Z : List Nat} {gs ms gp r c : Nat} {A : Option Addr} {M : Mod} {kv : KV} (h : StoreAt w Z gs ms gp r c A M kv) (hb : Below w.heap.size w w') : StoreAt w' Z gs ms gp r c A M kv :=
  ⟨h.st.below hb, h.obs.imp fun a b hr => ⟨hr.1, hr.2.below hb⟩⟩
def BeginTo (w : World) (gs : Nat) (W : Wk) (e : Ending) (w' : World) : Prop := ∃ gw, e = .returned (.pointer (some ⟨gw, 0, none⟩)) /\ Wkd w' w.heap.size gw gs W /\ Below w.heap.size w w'
def Fits (o : Ob) : Prop := o.d.length <= 65536 /\ o.e.length <= 65536
theorem xJN {w : World} {Z : List Nat} {gs ms gp r c : Nat} {A : Option Addr} {M : Mod} {kv : KV} (h : StoreAt w Z gs ms gp r c A M kv) (bs : List Nat) (hl : bs.length <= 1000000) (hf : ∀ p ∈ M.ob, Fits p.2) :
  Calls Tryz.prog 64 #[.pointer (some ⟨gs, 0, none⟩), .string (strOf bs)] w (BeginTo w gs (startW M (keyB bs))) := by
 have hbd : ∀ w, (Instr.build 139 #[(3, .pointer (some ⟨gs, 0, none⟩))]).run Tryz.prog w = .ok (.agg (workC none 0 0 (.map none) none 0 0 false none 0 0 gs)) w := fun w => by kernel_rfl
 have hbel : Below w.heap.size w (w.alloc (.cells (workC none 0 0 (.map none) none 0 0 false none 0 0 gs) 139)) := (Below.refl _ _).alloc (Nat.le_refl _) _
 have K0 := Blk.new w 139 (workC none 0 0 (.map none) none 0 0 false none 0 0 gs)
 have h1 := h.below hbel
 obtain ⟨w1, hw1⟩ : ∃ w1, w1 = w.alloc (.cells (workC none 0 0 (.map none) none 0 0 false none 0 0 gs) 139) := ⟨_, rfl⟩
 rw [<- hw1] at hbel K0 h1
 have hw1' : w1 = w.alloc (.cells #[.slice none 0 0, .map none, .slice none 0 0, .bool false, .slice none 0 0, .pointer (some ⟨gs, 0, none⟩)] 139) := hw1
 clear hw1
 have HW1 := kH hw1'
 clear hw1'
 have HO := kH (x97 h1.st bs hl)
 have HB := kH hbel
 have HK := kH K0
 have hW0 : ∀ W : Wk, W = ⟨false, [], [], [], []⟩ -> Wkd w1 w.heap.size w.heap.size gs W := by
  rintro W rfl
  exact ⟨0, 0, 0, none, none, none, .map none, [], [], ⟨K0, Nat.le_refl _, Own.nil _ _, (fun b hb => by cases hb), .inl ⟨rfl, rfl, rfl⟩, .nil, OwnE.nil _ _, World.ownsRow_nil _ _ _ _, .nil⟩⟩
 have HW0 := kH hW0
 have hcase := h1.obs.get ObjR.key (keyB bs)
 have HH1 := kH h1
 clear h h1 hbel K0 hW0
 rcases hcase with ⟨hn1, hn2⟩ | ⟨v, o, hs1, hs2, -, hob⟩
 ·rw [hn1, Option.getD_none] at HO
  go_enter Tryz.func64, Tryz.ntmps64
  go_wp2_with fail
  rw [<- HW1.out]
  refine HO.out.mono ?_
  rintro e w' ⟨rfl, rfl⟩
  go_wp2
  go_ret
  refine ⟨_, rfl, HW0.out _ ?_, HB.out⟩
  unfold startW
  rw [hn2]
 ·rw [hs1, Option.getD_some] at HO
  obtain ⟨go, mb, c1, ce, D, E, kv1, rfl, hmb, hat⟩ := hob
  have hfo := hf _ (x1O hs2)
  have HL := kH (xKM hat (Nat.le_trans hfo.1 (by decide)) (Nat.le_trans hfo.2 (by decide)))
  have HOB := kH hat
  clear hat hf
  go_enter Tryz.func64, Tryz.ntmps64
  go_wp2_with fail
  rw [<- HW1.out]
  refine HO.out.mono ?_
  rintro e w' ⟨rfl, rfl⟩
  go_wp2_with fail
  refine HL.out.mono ?_
  rintro e w2 ⟨D2, c2, mb2, E2, ce2, rfl, x1, x2, x3, x4, x5, x6⟩
  have K2 : Blk w2 w.heap.size 139 (workC none 0 0 (.map none) none 0 0 false none 0 0 gs) := HK.out.of (x6.block _ HK.out.lt)
  have HX := kH (kA x1 (kA x2 (kA x3 (kA x4 (kA x5 x6)))))
  clear x1 x2 x3 x4 x5 x6
  go_wp2_with (first
   | (refine x6A rfl 137 _ _ rfl w.heap.size 139 _ _ _ _ _ _ _ _ _ rfl rfl K2 (by kernel_rfl) rfl rfl rfl ?_; intro w3 K3 o3 s3)
   | (refine x4O rfl 4 _ _ rfl w.heap.size 3 139 _ (.bool true) rfl rfl K3 (by simp) (by kernel_rfl) rfl ?_; intro w4 K4 o4 s4))
  go_ret
  obtain ⟨x1, x2, x3, x4, x5, x6⟩ := HX.out
  have hz1 := HB.out.size
  have hz2 := x6.size
  have hkl := HK.out.lt
  have ho : Only [w.heap.size] w2 w4 := o3.trans o4 (fun k hk => .inl hk)
  have hG : ∀ (e : TypeId), e ≠ 139 -> ∀ k ∈ [w.heap.size], Odd w2 e k := fun e h1 k hk => by
   simp at hk; subst hk; exact Odd.blk K2 h1.symm
  refine ⟨_, rfl, ?_, (HB.out.trans (x6.mono (by omega))).trans (ho.below (fun k hk => by simp at hk; omega) (by omega))⟩
  unfold startW
  rw [hs2]
  exact ⟨c2, ce2, 0, D2, E2, none, .map (some mb2), kv1, [], ⟨K4, Nat.le_refl _, x0A (x0N x1 ho (hG _ (by decide))) (by omega), HOB.out.ok, .inr ⟨mb2, rfl, by omega, x2.of (ho.block _ x2.lt (by simp; omega))⟩, x5.imp fun a b hr => ⟨hr.1, hr.2.only ho fun k hk => .inr (hG _ (by decide) k hk)⟩, x0A (x0N x4 ho (hG _ (by decide))) (by omega), World.ownsRow_nil _ _ _ _, .nil⟩⟩
end
end Go.Proofs.YtajajlbeiikcmaaGreatDoor
