/- Texts of the walk, joined. -/
import Derived.Test.YtpogpajjemaagaaGreatDoorZTe
import Derived.Maps.OwnSet
namespace Go.Proofs.YtpogpajjemaagaaGreatDoor
set_option linter.unusedSimpArgs false
set_option linter.unusedVariables false
set_option maxRecDepth 100000
open Go.Proofs.Tryz
set_option maxHeartbeats 16000000
open Go.RowKit Go.BigFrame
open List (append_nil eq_nil_of_length_eq_zero eq_of_mem_replicate ext_getElem? filter_cons filter_eq_self find?_cons flatMap_append flatMap_cons flatMap_nil getD_eq_getElem?_getD length_replicate length_set map_cons map_drop mem_append mem_append_left mem_append_right mem_cons mem_flatMap mem_of_getElem? mem_of_mem_drop mem_of_mem_take mem_reverse nil_append nodup_cons not_mem_nil setIfInBounds_toArray set_append_right take_left' take_take)
variable {B Bx b base c ce ct cx g gp gs gw k mb ms n r x y : Nat} {w w' : World} {e t : TypeId} {tv xs : List Value} {F G Z bs d : LN} {P : Program} {kv l : KV} {av u : Value} {A D Dx E T : OA}
section
def flags8 : List Bool := List.replicate 8 false
theorem xJL (n : Int) (h : n < 0 ∨ 65536 < n) (w : World) : Calls prog 52 #[.int .i64 n] w fun e w' => e = .returned (.tuple #[.pointer none, errV 1]) /\ w = w' := by
 have HN := kH (xM9 n h w)
 simp only [errV] at HN ⊢
 go_enter func52, ntmps52
 go_wp2_with fail
 refine HN.out.mono ?_
 rintro e w' ⟨rfl, rfl⟩
 go_wp2
 go_ret2
 exact ⟨rfl, rfl⟩
def NewSt (w : World) (fl : List Bool) (p : Value) (w' : World) : Prop := ∃ gs ms gp r c A, p = .pointer (some ⟨gs, 0, none⟩) /\ StAt w' gs ms gp r c A flags8 fl [] /\ w.heap.size <= gs /\ w.heap.size <= ms /\ w.heap.size <= gp /\ w.heap.size <= r /\ Below w.heap.size w w'
theorem xBD (n : Nat) (hn : n <= 65536) (w : World) : Calls prog 52 #[.int .i64 n] w fun e w' => ∃ p, e = .returned (.tuple #[p, .nilIface]) /\ NewSt w (List.replicate n true) p w' := by
 have HN := kH (xNQ n hn w)
 have hmm := @run_makeMap prog
 have hbd : ∀ (m gp : Nat) (w : World), (Instr.build 122 #[(0, .map (some m)), (2, .pointer (some ⟨gp, 0, none⟩))]).run prog w = .ok (.agg (stC m flags8 gp)) w := fun m gp w => by kernel_rfl
 go_enter func52, ntmps52
 go_wp2_with fail
 refine HN.out.mono ?_
 rintro e w1 ⟨p, rfl, gp, r, A, c, rfl, hs, hne, hg, hr, hb⟩
 have m1 : SMap prog 9 (w1.alloc (.map #[] 0)) w1.heap.size [] := SMap.new w1
 have K2 := kW (w1.alloc (.map #[] 0)) 122 (stC w1.heap.size flags8 gp)
 have s1 : (w1.alloc (.map #[] 0)).heap.size = w1.heap.size + 1 := kJ _ _
 rw [s1] at K2
 have hz := hb.size
 have hb2 : Below w.heap.size w ((w1.alloc (.map #[] 0)).alloc (.cells (stC w1.heap.size flags8 gp) 122)) := (hb.alloc hz _).alloc (by rw [s1]; omega) _
 have hs2 : SAt ((w1.alloc (.map #[] 0)).alloc (.cells (stC w1.heap.size flags8 gp) 122)) gp r A c (List.replicate n true) (cnt (List.replicate n true)) := hs.of (by rw [kG _ _ _ (by have := hs.blk.lt; rw [s1]; omega), kG _ _ _ hs.blk.lt]) (fun t cs hx => by rw [kG _ _ _ (by have := hx.lt; rw [s1]; omega), kG _ _ _ hx.lt])
 have hm2 : SMap prog 9 ((w1.alloc (.map #[] 0)).alloc (.cells (stC w1.heap.size flags8 gp) 122)) w1.heap.size [] := m1.of (kG _ _ _ m1.lt)
 have HF := kH (show NewSt w (List.replicate n true) (.pointer (some ⟨w1.heap.size + 1, 0, none⟩)) ((w1.alloc (.map #[] 0)).alloc (.cells (stC w1.heap.size flags8 gp) 122)) from ⟨_, w1.heap.size, gp, r, c, A, rfl, ⟨K2, rfl, hm2, hs2, hne⟩, by omega, hz, hg, hr, hb2⟩)
 clear hs hne hg hr hb m1 K2 hb2 hs2 hm2 HN
 go_wp2
 go_ret2
 exact ⟨_, rfl, HF.out⟩
section
variable {w : World} {gs ms gp r c : Nat} {A : OA} {bl fl : List Bool} {kv : KV}
theorem xH3 (h : StAt w gs ms gp r c A bl fl kv) {j : Nat} (hj : j < 8) (hr : fl ≠ [] -> r ≠ gs) : StAt (w.setCell ⟨gs, 1 + j, none⟩ (.bool true)) gs ms gp r c A (bl.set j true) fl kv := by
 have hm : ms ≠ gs := h.map.ne_blk h.blk
 have hg : gp ≠ gs := h.sp.blk.ne_ h.blk (by decide)
 refine ⟨?_, by rw [length_set]; exact h.len, h.map.of (kE _ _ _ _ hm), ⟨h.sp.blk.of (kE _ _ _ _ hg), h.sp.cap, h.sp.lim, ?_⟩, h.ne⟩
 ·have := h.blk.set_ (1 + j) (.bool true)
  have e : (stC ms bl gp).setIfInBounds (1 + j) (.bool true) = stC ms (bl.set j true) gp := by
   have hl := h.len
   unfold stC
   rw [setIfInBounds_toArray, Nat.add_comm, List.set_cons_succ, List.set_append_left _ _ (by simp; omega), List.map_set]
  rwa [e] at this
 ·rcases h.sp.row with e | ⟨e, cs, hb, hc⟩
  ·exact .inl e
  ·exact .inr ⟨e, cs, hb.of (kE _ _ _ _ (hb.ne_ h.blk (by decide))), hc⟩
def blockE (n : Int) : Value := if isClientB n then .nilIface else errV 1
def blockAt (bl : List Bool) (n : Int) : List Bool := if isClientB n then bl.set n.toNat true else bl
theorem xL1 (h : StAt w gs ms gp r c A bl fl kv) (n : Int) : Calls prog 17 #[.pointer (some ⟨gs, 0, none⟩), .int .i64 n] w fun e w' => e = .returned (blockE n) /\ StAt w' gs ms gp r c A (blockAt bl n) fl kv /\ Only [gs] w w' := by
  by_cases hc : isClientB n = true
  · obtain ⟨j, rfl, hj⟩ : ∃ j : Nat, n = j /\ j < 8 := by
      simp [isClientB] at hc
      exact ⟨n.toNat, by omega, by omega⟩
    have hx : ∃ b, bl[j]? = some b := ⟨_, List.getElem?_eq_getElem (by rw [h.len]; exact hj)⟩
    obtain ⟨b, hb⟩ := hx
    have q := h.cb hb
    have f := h.blk.frozen (1 + j)
    have hS : StAt (w.setCell ⟨gs, 1 + j, none⟩ (.bool true)) gs ms gp r c A (bl.set j true) fl kv := xH3 h hj (fun hf => by
      rcases h.sp.row with e | ⟨_, cs, hb', _⟩
      · exact absurd e hf
      · exact hb'.ne_ h.blk (by decide))
    have HF := kH (kA hS (show Only [gs] w (w.setCell ⟨gs, 1 + j, none⟩ (.bool true)) from (kU _ _).setCell (.inl (by simp)) _))
    have HI := kH (x2B (j : Int) w)
    have HC := kH hc
    have hj2 : (j : Int) < 8 := by omega
    clear h hS hb hc
    go_enter func17, ntmps17
    go_wp2_with fail
    refine HI.out.mono ?_
    rintro e w' ⟨rfl, rfl⟩
    rw [HC.out]
    clear HI
    go_wp2
    go_ret
    refine ⟨by unfold blockE; rw [if_pos HC.out]; rfl, ?_, HF.out.2⟩
    unfold blockAt
    rw [if_pos HC.out]
    exact HF.out.1
  · have hc' : isClientB n = false := by simpa using hc
    have HF := kH h
    have HI := kH (x2B n w)
    have HC := kH hc'
    clear h hc hc'
    go_enter func17, ntmps17
    go_wp2_with fail
    refine HI.out.mono ?_
    rintro e w' ⟨rfl, rfl⟩
    rw [HC.out]
    clear HI
    go_wp2
    go_ret
    refine ⟨by unfold blockE; rw [HC.out]; rfl, ?_, kU _ _⟩
    unfold blockAt
    rw [HC.out]
    exact HF.out
theorem xFI (h : StAt w gs ms gp r c A bl fl kv) (n : Int) : Calls prog 165 #[.pointer (some ⟨gs, 0, none⟩), .int .i64 n] w fun e w' => e = .returned (.bool (isClientB n && bl.getD n.toNat false)) /\ w = w' := by
  by_cases hc : isClientB n = true
  · obtain ⟨j, rfl, hj⟩ : ∃ j : Nat, n = j /\ j < 8 := by
      simp [isClientB] at hc
      exact ⟨n.toNat, by omega, by omega⟩
    obtain ⟨b, hb⟩ : ∃ b, bl[j]? = some b := ⟨_, List.getElem?_eq_getElem (by rw [h.len]; exact hj)⟩
    have q := h.cb hb
    have HI := kH (x2B (j : Int) w)
    have HC := kH hc
    have HB := kH hb
    have hj2 : (j : Int) < 8 := by omega
    clear h hb hc
    go_enter func165, ntmps165
    go_wp2_with fail
    refine HI.out.mono ?_
    rintro e w' ⟨rfl, rfl⟩
    rw [HC.out]
    clear HI
    go_wp2
    go_ret
    refine ⟨?_, rfl⟩
    rw [HC.out, Bool.true_and, kP, getD_eq_getElem?_getD, HB.out]
    rfl
  · have hc' : isClientB n = false := by simpa using hc
    have HI := kH (x2B n w)
    have HC := kH hc'
    clear h hc hc'
    go_enter func165, ntmps165
    go_wp2_with fail
    refine HI.out.mono ?_
    rintro e w' ⟨rfl, rfl⟩
    rw [HC.out]
    clear HI
    go_wp2
    go_ret
    refine ⟨?_, rfl⟩
    rw [HC.out]
    rfl
end
end
def shedR : List (Nat × Nat) -> Nat -> List (Nat × Nat) × List (Nat × Nat)
 | r, 0 => (r, [])
 | [], _ + 1 => ([], [])
 | (x, y) :: r, n + 1 => if n + 1 < y then ((x, y - (n + 1)) :: r, [(x + (y - (n + 1)), n + 1)]) else ((shedR r (n + 1 - y)).1, (x, y) :: (shedR r (n + 1 - y)).2)
theorem x5N (r : List (Nat × Nat)) : shedR r 0 = (r, []) := by cases r <;> rfl
theorem x9X {r : List (Nat × Nat)} (h0 : 0 < n) (h : n < y) : shedR ((x, y) :: r) n = ((x, y - n) :: r, [(x + (y - n), n)]) := by
 obtain ⟨k, rfl⟩ : ∃ k, n = k + 1 := ⟨n - 1, by omega⟩
 rw [shedR, if_pos h]
theorem x4Y {r : List (Nat × Nat)} (h0 : 0 < n) (h : y <= n) : shedR ((x, y) :: r) n = ((shedR r (n - y)).1, (x, y) :: (shedR r (n - y)).2) := by
 obtain ⟨k, rfl⟩ : ∃ k, n = k + 1 := ⟨n - 1, by omega⟩
 rw [shedR, if_neg (by omega)]
theorem OwnE.relen {r : List (Int × Int)} {x y : Int} (h : OwnE w base (.slice (some ⟨g, 0, none⟩) (r ++ [(x, y)]).length c) (r ++ [(x, y)])) (z : Int) :
  OwnE (w.setCell ⟨g, r.length * 2 + 1, none⟩ (.int .i64 z)) base (.slice (some ⟨g, 0, none⟩) (r ++ [(x, z)]).length c) (r ++ [(x, z)]) /\ w.cell? ⟨g, r.length * 2, none⟩ = some (.int .i64 x) /\ w.cell? ⟨g, r.length * 2 + 1, none⟩ = some (.int .i64 y) /\ w.frozen? ⟨g, r.length * 2 + 1, none⟩ = false := by
 have e : ∀ u, extS (r ++ [(x, u)]) = extS r ++ [.int .i64 x, .int .i64 u] := fun u => by simp [extS, ext1]
 have hl := x6C r
 have h1 := (World.ownsRow.stored h (r.length * 2 + 1) (.int .i64 z)).1
 have h2 := World.ownsRow.cellAt h (r.length * 2 + 1) (by simp; omega)
 have h4 := World.ownsRow.cellAt h (r.length * 2) (by simp)
 have h3 := World.ownsRow.frozenAt h (r.length * 2 + 1)
 rw [e] at h1 h2 h4
 rw [set_append_right _ _ (by omega), hl, show r.length * 2 + 1 - r.length * 2 = 1 by omega] at h1
 rw [List.getElem?_append_right (by omega), hl, show r.length * 2 + 1 - r.length * 2 = 1 by omega] at h2
 rw [List.getElem?_append_right (by omega), hl, Nat.sub_self] at h4
 refine ⟨?_, h4, h2, h3⟩
 unfold OwnE
 rw [e]
 simpa using h1
theorem OwnE.init {r : List (Int × Int)} {e : Int × Int} (h : OwnE w base (.slice (some ⟨g, 0, none⟩) (r ++ [e]).length c) (r ++ [e])) : OwnE w base (.slice (some ⟨g, 0, none⟩) r.length c) r := by
 rcases h.2 with ⟨e1, h0⟩ | ⟨b, cap, cur, e1, hb, hh, h1, h2, h3, h4⟩
 ·cases e1
 ·injection e1 with a1 a2 a3
  injection a1 with a1
  injection a1 with a1
  subst a1 a3
  refine ⟨by rw [x6C], .inr ⟨g, c, cur, rfl, hb, hh, by simp at h1; omega, h2, h3, ?_⟩⟩
  have e2 : extS (r ++ [e]) = extS r ++ ext1 e := by simp [extS]
  rw [e2] at h4
  have := congrArg (List.take (r.length * 2)) h4
  rw [take_take, take_left' (x6C r)] at this
  rw [<- this]
  congr 1
  simp
structure Shed (w wr : World) (g b c base : Nat) (t : TypeId) (cs : Array Value) (lv : Value) (r out : List (Nat × Nat)) (nn : Nat) : Prop where
 blk : Blk wr g t (cs.setIfInBounds 2 (.slice (some ⟨b, 0, none⟩) r.length c))
 ext : OwnE wr base (.slice (some ⟨b, 0, none⟩) r.length c) (natE r.reverse)
 own : OwnE wr w.heap.size lv (natE out)
 only : Only [g, b] w wr
theorem x6H (b n c i : Nat) (h : i <= c) (w : World) : (Instr.slice 135 (.slice (some ⟨b, 0, none⟩) n c) none (some (.int .i64 (i : Int))) none).run prog w = .ok (.slice (some ⟨b, 0, none⟩) i c) w := by
 rw [x4B (some ⟨b, 0, none⟩) n c i h w]
 split <;> simp [Addr.add]
def ShedTo (w : World) (g b c base : Nat) (t : TypeId) (cs : Array Value) (es : List (Nat × Nat)) (n : Nat) (e : Ending) (w' : World) : Prop :=
  ∃ lv, e = .returned lv /\ Blk w' g t (cs.setIfInBounds 2 (.slice (some ⟨b, 0, none⟩) (shedR es.reverse n).1.length c)) /\ OwnE w' base (.slice (some ⟨b, 0, none⟩) (shedR es.reverse n).1.length c) (natE (shedR es.reverse n).1.reverse) /\ OwnE w' w.heap.size lv (natE (shedR es.reverse n).2) /\ Only [g, b] w w'
theorem x1L {o : Obj} {p : Addr} {v : Value} (h : w.cell? p = some v) : (w.alloc o).cell? p = some v := by
 rw [World.cell?_alloc_lt w o p (World.block_lt_of_cell? w p h)]
 exact h
theorem Shed.step {wo : World} {nn : Nat} {cs : Array Value} {lv v' : Value} {r' out : List (Nat × Nat)} {z p q : Nat} {o : Obj} (h : Shed w wo g b c base t cs lv ((x, y) :: r') out nn) (hbl : b < w.heap.size) (hgl : g < w.heap.size) (hbg : b ≠ g)
  (hnew : OwnE (wo.setCell ⟨b, k * 2 + 1, none⟩ (.int .i64 (z : Int))) base (.slice (some ⟨b, 0, none⟩) (natE r'.reverse ++ [((x : Int), (z : Int))]).length c) (natE r'.reverse ++ [((x : Int), (z : Int))]))
  (hg : (((wo.setCell ⟨b, k * 2 + 1, none⟩ (.int .i64 (z : Int))).drew).alloc o).grownBy w' lv.ownBlock) (hown : OwnE w' w.heap.size v' (natE out ++ [((p : Int), (q : Int))])) :
  (∀ j, Shed w w' g b c base t cs v' ((x, z) :: r') (out ++ [(p, q)]) j) /\ w'.cell? ⟨b, r'.length * 2, none⟩ = some (.int .i64 (x : Int)) /\ w'.cell? ⟨b, r'.length * 2 + 1, none⟩ = some (.int .i64 (z : Int)) := by
 have hs := h.only.size
 have hob : ∀ k2, lv.ownBlock = some k2 -> w.heap.size <= k2 := fun k2 hk2 => (kD h.own k2 hk2).1
 have hb' : some b ≠ lv.ownBlock := fun e => by have := hob b e.symm; omega
 have hg' : some g ≠ lv.ownBlock := fun e => by have := hob g e.symm; omega
 have hbw : w'.heap[b]? = (wo.setCell ⟨b, k * 2 + 1, none⟩ (.int .i64 (z : Int))).heap[b]? := by
  rw [hg.block b (by simp [World.alloc, World.setCell, World.drew]; omega) hb']
  exact kG _ _ b (by simp [World.setCell, World.drew]; omega)
 have e1 : natE ((x, z) :: r').reverse = natE r'.reverse ++ [((x : Int), (z : Int))] := by simp [natE]
 have e2 : ((x, z) :: r').length = (natE r'.reverse ++ [((x : Int), (z : Int))]).length := by simp [natE]
 have hE : OwnE w' base (.slice (some ⟨b, 0, none⟩) (natE r'.reverse ++ [((x : Int), (z : Int))]).length c) (natE r'.reverse ++ [((x : Int), (z : Int))]) := x06 hnew fun k2 hk2 => by
  have e := x00.1 hk2
  injection e with e
  subst e
  exact hbw
 refine ⟨fun j => ⟨?_, by rw [e1, e2]; exact hE, ?_, ?_⟩, ?_⟩
 ·have h1 : Blk (wo.setCell ⟨b, k * 2 + 1, none⟩ (.int .i64 (z : Int))) g t (cs.setIfInBounds 2 (.slice (some ⟨b, 0, none⟩) ((x, y) :: r').length c)) := (kE _ _ _ _ (Ne.symm hbg)).trans h.blk
  exact (h1.drew.alloc o).grown hg hg'
 ·simpa [natE] using hown
 ·refine Only.grown (Only.alloc ((h.only.setCell (.inl (by simp)) _).drew) o) hg (fun k2 hk2 => .inr (hob k2 hk2))
 ·have hr := hE.relen 0
  have e3 : (natE r'.reverse).length = r'.length := by simp [natE]
  rw [e3] at hr
  exact ⟨hr.2.1, hr.2.2.1⟩
theorem Shed.pop {j : Nat} {cs : Array Value} {v' : Value} {r' out : List (Nat × Nat)} {z : Nat} (h : Shed w w' g b c base t cs v' ((x, z) :: r') out j) (hbl : b < w.heap.size) (hgl : g < w.heap.size) (hbg : b ≠ g) (i : Nat) :
    Shed w (w'.setCell ⟨g, 2, none⟩ (.slice (some ⟨b, 0, none⟩) r'.length c)) g b c base t cs v' r' out i := by
  have hob : ∀ k2, v'.ownBlock = some k2 -> w.heap.size <= k2 := fun k2 hk2 => (kD h.own k2 hk2).1
  have e1 : natE ((x, z) :: r').reverse = natE r'.reverse ++ [((x : Int), (z : Int))] := by simp [natE]
  have e2 : ((x, z) :: r').length = (natE r'.reverse ++ [((x : Int), (z : Int))]).length := by simp [natE]
  have hE := h.ext
  rw [e1, e2] at hE
  have hI := hE.init
  rw [show (natE r'.reverse).length = r'.length by simp [natE]] at hI
  refine ⟨?_, ?_, ?_, h.only.setCell (.inl (by simp)) _⟩
  · have := h.blk.set_ 2 (.slice (some ⟨b, 0, none⟩) r'.length c)
    simpa using this
  · exact x06 hI fun k2 hk2 => by
      have e := x00.1 hk2
      injection e with e
      subst e
      exact kE _ _ _ _ hbg
  · exact x06 h.own fun k2 hk2 => kE _ _ _ _ (by have := hob k2 (x00.1 hk2); show k2 ≠ g; omega)
theorem xLX {cs : Array Value} {es : List (Nat × Nat)} (hb : Blk w g t cs) (ht : t ≠ 198) (h2 : cs[2]? = some (.slice (some ⟨b, 0, none⟩) es.length c)) (ho : OwnE w base (.slice (some ⟨b, 0, none⟩) es.length c) (natE es)) (hpos : ∀ e ∈ es, 1 <= e.2) (hn : n <= lens es) (hfit : ∀ e ∈ es, e.1 <= 1000000 /\ e.2 <= 1000000) (hl : es.length <= 1000000) (hnb : n <= 1000000) :
  Calls prog 175 #[.pointer (some ⟨g, 0, none⟩), .int .i64 (n : Int)] w (ShedTo w g b c base t cs es n) := by
 have hbl : b < w.heap.size := (kD ho b rfl).2
 have hgl := hb.lt
 have hbg : b ≠ g := by
  obtain ⟨-, h | ⟨b', cap, cur, e, _, hh, _⟩⟩ := ho
  ·cases h.1
  ·injection e with e; injection e with e; injection e with e
   subst e
   exact fun e => (show Blk w b 198 cur from hh).ne_ hb (fun e' => ht e'.symm) e
 have h0 : Shed w w g b c base t cs (.slice none 0 0) es.reverse [] n := ⟨by rw [List.length_reverse, x5X h2]; exact hb, by rw [List.length_reverse, List.reverse_reverse]; exact ho, OwnE.nil _ _, kU _ _⟩
 have hcs : 2 < cs.size := (Array.getElem?_eq_some_iff.1 h2).1
 have H0 := kH h0
 have HPS := kH (kA hpos (kA hn hfit))
 clear hb h2 ho h0 hpos hn hfit
 go_enter func175, ntmps175
 go_wp2
 go_loopw [1, 5] (fun nv lv wr => ∃ (nn : Nat) (r out : List (Nat × Nat)), nv = .int .i64 nn /\ nn <= lens r /\ nn <= n /\ (∀ e ∈ r, 1 <= e.2 /\ e.1 <= 1000000 /\ e.2 <= 1000000) /\ r.length <= es.length /\ out.length + r.length <= es.length + 1 /\ (out.length + r.length <= es.length ∨ nn = 0) /\ (shedR es.reverse n = ((shedR r nn).1, out ++ (shedR r nn).2)) /\ Shed w wr g b c base t cs lv r out nn) (fun nv _ _ => (intS nv).toNat)
 case atStart => exact ⟨n, es.reverse, [], rfl, by rw [show lens es.reverse = lens es from x4S es.reverse_perm]; exact HPS.out.2.1, kR _, fun e he => by have h := mem_reverse.1 he; exact ⟨HPS.out.1 e h, HPS.out.2.2 e h⟩, by simp, by simp, .inl (by simp), by simp, H0.out⟩
 case round =>
  obtain ⟨nn, r, out, rfl, hnl, hnn, hrr, hrl, hol, hol2, heq, hS⟩ := hrel
  obtain ⟨wo, hwo⟩ := kX wr
  subst hwo
  obtain ⟨Al, cl, rfl, -⟩ := hS.own.form
  clear H0
  rcases Nat.eq_zero_or_pos nn with hn0 | hn0
  ·subst hn0
   rw [x5N] at heq
   have HS := kH (kA hS heq)
   clear hS heq
   go_wp2
   go_ret
   have h := HS.out.1
   rw [append_nil] at HS
   refine ⟨_, rfl, ?_, ?_, ?_, h.only⟩
   ·rw [HS.out.2]; exact h.blk
   ·rw [HS.out.2]; exact h.ext
   ·rw [HS.out.2]; exact h.own
  ·have hd0 : decide ((0 : Int) < (nn : Int)) = true := decide_eq_true (by omega)
   match r, hnl, hrr, hrl, hol, hol2, heq, hS with
   | [], hnl, _, _, _, _, _, _ => exact absurd hnl (by simp [lens]; omega)
   | (x, y) :: r', hnl, hrr, hrl, hol, hol2, heq, hS =>
    have hxy := hrr (x, y) (by simp)
    have hext := hS.ext
    have hrev : natE ((x, y) :: r').reverse = natE r'.reverse ++ [((x : Int), (y : Int))] := by simp [natE]
    have hlr : (natE r'.reverse).length = r'.length := by simp [natE]
    have hl2 : ((x, y) :: r').length = (natE r'.reverse ++ [((x : Int), (y : Int))]).length := by simp [natE]
    rw [hrev, hl2] at hext
    obtain ⟨k, hk⟩ := kX r'.length
    have hlens : lens ((x, y) :: r') = y + lens r' := by simp [lens]
    have q2 : wo.cell? ⟨g, 2, none⟩ = some (.slice (some ⟨b, 0, none⟩) (k + 1) c) := by rw [hS.blk.cell, Array.getElem?_setIfInBounds_self_of_lt hcs, hk]; rfl
    have f2 : wo.frozen? ⟨g, 2, none⟩ = false := hS.blk.frozen 2
    have hkl : k <= 1000000 := by simp at hrl; omega
    have hw1 : IntKind.i64.wrap (((k + 1 : Nat) : Int) - 1) = (k : Int) := by rw [kI]; omega
    have hrr' : ∀ e ∈ r', 1 <= e.2 /\ e.1 <= 1000000 /\ e.2 <= 1000000 := fun e he => hrr e (by simp [he])
    have hkc : k + 1 <= c := by
     rcases hS.ext.2 with ⟨e, _⟩ | ⟨_, _, _, e, _, _, h1, _⟩
     ·cases e
     ·injection e with _ e1 e2; simp [natE] at e1 e2 h1; omega
    have HKK := kH hk
    by_cases hlt : nn < y
    ·have hmin : decide ((nn : Int) <= (y : Int)) = true := decide_eq_true (by omega)
     have hw2 : IntKind.i64.wrap ((y : Int) - (nn : Int)) = ((y - nn : Nat) : Int) := by rw [kI]; omega
     have hw3 : IntKind.i64.wrap ((nn : Int) - (nn : Int)) = 0 := by rw [kI]; omega
     have hw4 : IntKind.i64.wrap ((x : Int) + ((y - nn : Nat) : Int)) = ((x + (y - nn) : Nat) : Int) := by rw [kI]; omega
     obtain ⟨hnew, c0, c1, f1⟩ := hext.relen ((y - nn : Nat) : Int)
     rw [hlr, <- hk] at hnew c0 c1 f1
     have HC8 : Hid ((wo.setCell ⟨b, k * 2 + 1, none⟩ (.int .i64 ((y - nn : Nat) : Int))).drew.cell? ⟨b, k * 2, none⟩ = some (.int .i64 (x : Int)) /\ (wo.setCell ⟨b, k * 2 + 1, none⟩ (.int .i64 ((y - nn : Nat) : Int))).drew.cell? ⟨b, k * 2 + 1, none⟩ = some (.int .i64 ((y - nn : Nat) : Int))) := kH (by
      have h := hnew.relen ((y - nn : Nat) : Int)
      rw [hlr, <- hk] at h
      exact ⟨h.2.1, h.2.2.1⟩)
     have hsz : w.heap.size <= wo.heap.size := hS.only.size
     have hob : ∀ k2, (Value.slice Al (natE out).length cl).ownBlock = some k2 -> w.heap.size <= k2 := fun k2 hk2 => (kD hS.own k2 hk2).1
     have hout1 : OwnE (wo.setCell ⟨b, k * 2 + 1, none⟩ (.int .i64 ((y - nn : Nat) : Int))) w.heap.size (.slice Al (natE out).length cl) (natE out) := x06 hS.own fun k2 hk2 => kE _ _ _ _ (by have := hob k2 (x00.1 hk2); show k2 ≠ b; omega)
     have HOUT : Hid (OwnE (((wo.setCell ⟨b, k * 2 + 1, none⟩ (.int .i64 ((y - nn : Nat) : Int))).drew).alloc (.cells (ext1 (((x + (y - nn) : Nat) : Int), (nn : Int))).toArray 198)) w.heap.size (.slice Al (natE out).length cl) (natE out)) := kH (x06 hout1 fun k2 hk2 => by
      have h1 := (kD hout1 k2 (x00.1 hk2)).2
      exact kG _ _ k2 h1)
     have HLEN : Hid ((natE out).length <= 1000001) := kH (by simp [natE]; simp at hol; omega)
     have HSZ : Hid (w.heap.size <= (((wo.setCell ⟨b, k * 2 + 1, none⟩ (.int .i64 ((y - nn : Nat) : Int))).drew).alloc (.cells (ext1 (((x + (y - nn) : Nat) : Int), (nn : Int))).toArray 198)).heap.size) := kH (by
      simp [World.alloc, World.setCell, World.drew]
      omega)
     have HNEW := kH (kA hnew hS)
     clear hnew hS hext hrev hl2 hk hlr hsz hob hout1
     have hbe := x2F (((x + (y - nn) : Nat) : Int), (nn : Int))
     have hS8 : (wo.setCell ⟨b, k * 2 + 1, none⟩ (.int .i64 ((y - nn : Nat) : Int))).drew.cell? ⟨b, k * 2, none⟩ = some (.int .i64 (x : Int)) /\ (wo.setCell ⟨b, k * 2 + 1, none⟩ (.int .i64 ((y - nn : Nat) : Int))).drew.cell? ⟨b, k * 2 + 1, none⟩ = some (.int .i64 ((y - nn : Nat) : Int)) := HC8.out
     have HS8 := kH hS8
     go_upto_region 8 with (fail)
     refine x09 (fun w' => w'.cell? ⟨b, k * 2, none⟩ = some (.int .i64 (x : Int)) /\ w'.cell? ⟨b, k * 2 + 1, none⟩ = some (.int .i64 ((y - nn : Nat) : Int))) 14 (by kernel_rfl) ?_
     refine tU 0 (.slice Al (natE out).length cl) rfl (fun w hw => by kernel_rfl) hS8 ?_
     refine tU 1 (.pointer (some ⟨b, k * 2, none⟩)) rfl (fun w hw => by kernel_rfl) hS8 ?_
     refine tU 2 (.pointer (some ⟨b, k * 2, none⟩)) rfl (fun w hw => by go_simp) hS8 ?_
     refine tU 3 (.pointer (some ⟨b, k * 2, none⟩)) rfl (fun w hw => by kernel_rfl) hS8 ?_
     refine tU 4 (.int .i64 (x : Int)) rfl (fun w hw => by have q := hw.1; go_simp) hS8 ?_
     refine tU 5 (.pointer (some ⟨b, k * 2, none⟩)) rfl (fun w hw => by kernel_rfl) hS8 ?_
     refine tU 6 (.pointer (some ⟨b, k * 2, none⟩)) rfl (fun w hw => by go_simp) hS8 ?_
     refine tU 7 (.pointer (some ⟨b, k * 2 + 1, none⟩)) rfl (fun w hw => by kernel_rfl) hS8 ?_
     refine tU 8 (.int .i64 ((y - nn : Nat) : Int)) rfl (fun w hw => by have q := hw.2; go_simp) hS8 ?_
     refine tU 9 (.int .i64 ((x + (y - nn) : Nat) : Int)) rfl (fun w hw => by go_simp) hS8 ?_
     refine tU 10 (.int .i64 (nn : Int)) rfl (fun w hw => by kernel_rfl) hS8 ?_
     refine tU 11 (.agg #[.int .i64 ((x + (y - nn) : Nat) : Int), .int .i64 (nn : Int)]) rfl (fun w hw => by go_simp) hS8 ?_
     refine tO 12 ?_
     refine x0A (v := .slice (some ⟨(wo.setCell ⟨b, k * 2 + 1, none⟩ (.int .i64 ((y - nn : Nat) : Int))).drew.heap.size, 0, none⟩) 1 1) (w' := ((wo.setCell ⟨b, k * 2 + 1, none⟩ (.int .i64 ((y - nn : Nat) : Int))).drew).alloc (.cells (ext1 (((x + (y - nn) : Nat) : Int), (nn : Int))).toArray 198)) (by have hq := hbe ((wo.setCell ⟨b, k * 2 + 1, none⟩ (.int .i64 ((y - nn : Nat) : Int))).drew); go_simp; rfl) ⟨⟨(x1L hS8.1), (x1L hS8.2)⟩, ?_⟩
     simp only [nH, pu, nB, nC, nD]
     refine tO 13 ?_
     obtain ⟨i0, hi0, hz0, hz1, hz2⟩ := info_parts x3G
     refine x1A _ (.tmp 40) (.tmp 52) 135 rfl w.heap.size 198 i0 _ 2 16 underlying135 hi0 hz0 hz1 hz2 rfl (by omega) (.slice Al (natE out).length cl) (natE out).length (extS (natE out)) rfl HOUT.out _ (some ⟨_, 0, none⟩) 1 1 (extS [(((x + (y - nn) : Nat) : Int), (nn : Int))]) rfl (x41 _ _) (x46 _) (by simp only [maxLen]; have := HLEN.out; omega) (by have := HLEN.out; omega) (HSZ.out) ?_
     intro v' w' hown hgr hor
     have hown2 : OwnE w' w.heap.size v' (natE out ++ [(((x + (y - nn) : Nat) : Int), (nn : Int))]) := by unfold OwnE; rw [extS, flatMap_append, kN]; exact hown
     obtain ⟨hstep, hc0, hc1⟩ := HNEW.out.2.step hbl hgl hbg HNEW.out.1 hgr hown2
     rw [<- HKK.out] at hc0 hc1
     obtain ⟨A2, c2, rfl, -⟩ := (hstep 0).own.form
     have HSTEP := kH hstep
     clear hown hown2 hstep hgr hor
     refine ⟨⟨hc0, hc1⟩, ?_⟩
     simp only [nH, pu, nB, nC, nD]
     refine tZ ?_
     refine x0A (v := .slice A2 (natE (out ++ [((x + (y - nn) : Nat), nn)])).length c2) (w' := w') (by kernel_rfl) ?_
     simp only [nH, pu, nB, nC, nD]
     simp only [NoPanic, Exit.then]
     have hz9 : decide (((y - nn : Nat) : Int) = 0) = false := decide_eq_false (by omega)
     go_wp2
     refine ⟨⟨0, (x, y - nn) :: r', out ++ [(x + (y - nn), nn)], rfl, kY _, kY _, ?_, by simpa using hrl, by simp at hol hol2 ⊢; omega, .inr rfl, ?_, HSTEP.out 0⟩, by simp [intS]; omega⟩
     ·intro e he
      rcases kQ he with rfl | he
      ·exact ⟨by show 1 <= y - nn; omega, hxy.2.1, by have := hxy.2.2; show y - nn <= 1000000; simp at this; omega⟩
      ·exact hrr' e he
     ·rw [x5N, heq, x9X hn0 hlt]
      simp
    ·rcases Nat.lt_or_ge y nn with hyn | hyn
     ·have hmin : decide ((nn : Int) <= (y : Int)) = false := decide_eq_false (by omega)
      have hw2 : IntKind.i64.wrap ((y : Int) - (y : Int)) = 0 := by rw [kI]; omega
      have hw3 : IntKind.i64.wrap ((nn : Int) - (y : Int)) = ((nn - y : Nat) : Int) := by rw [kI]; omega
      have hw4 : IntKind.i64.wrap ((x : Int) + 0) = (x : Int) := by rw [kI]; omega
      have hw5 : IntKind.i64.wrap (x : Int) = (x : Int) := by rw [kI]; omega
      obtain ⟨hnew, c0, c1, f1⟩ := hext.relen (0 : Int)
      rw [hlr, <- hk] at hnew c0 c1 f1
      have HC8 : Hid ((wo.setCell ⟨b, k * 2 + 1, none⟩ (.int .i64 (0 : Int))).drew.cell? ⟨b, k * 2, none⟩ = some (.int .i64 (x : Int)) /\ (wo.setCell ⟨b, k * 2 + 1, none⟩ (.int .i64 (0 : Int))).drew.cell? ⟨b, k * 2 + 1, none⟩ = some (.int .i64 (0 : Int))) := kH (by
       have h := hnew.relen (0 : Int)
       rw [hlr, <- hk] at h
       exact ⟨h.2.1, h.2.2.1⟩)
      have hsz : w.heap.size <= wo.heap.size := hS.only.size
      have hob : ∀ k2, (Value.slice Al (natE out).length cl).ownBlock = some k2 -> w.heap.size <= k2 := fun k2 hk2 => (kD hS.own k2 hk2).1
      have hout1 : OwnE (wo.setCell ⟨b, k * 2 + 1, none⟩ (.int .i64 (0 : Int))) w.heap.size (.slice Al (natE out).length cl) (natE out) := x06 hS.own fun k2 hk2 => kE _ _ _ _ (by have := hob k2 (x00.1 hk2); show k2 ≠ b; omega)
      have HOUT : Hid (OwnE (((wo.setCell ⟨b, k * 2 + 1, none⟩ (.int .i64 (0 : Int))).drew).alloc (.cells (ext1 ((x : Int), (y : Int))).toArray 198)) w.heap.size (.slice Al (natE out).length cl) (natE out)) := kH (x06 hout1 fun k2 hk2 => by
       have h1 := (kD hout1 k2 (x00.1 hk2)).2
       exact kG _ _ k2 h1)
      have HLEN : Hid ((natE out).length <= 1000001) := kH (by simp [natE]; simp at hol; omega)
      have HSZ : Hid (w.heap.size <= (((wo.setCell ⟨b, k * 2 + 1, none⟩ (.int .i64 (0 : Int))).drew).alloc (.cells (ext1 ((x : Int), (y : Int))).toArray 198)).heap.size) := kH (by
       simp [World.alloc, World.setCell, World.drew]
       omega)
      have HNEW := kH (kA hnew hS)
      clear hnew hS hext hrev hl2 hk hlr hsz hob hout1
      have hbe := x2F ((x : Int), (y : Int))
      have hS8 : (wo.setCell ⟨b, k * 2 + 1, none⟩ (.int .i64 (0 : Int))).drew.cell? ⟨b, k * 2, none⟩ = some (.int .i64 (x : Int)) /\ (wo.setCell ⟨b, k * 2 + 1, none⟩ (.int .i64 (0 : Int))).drew.cell? ⟨b, k * 2 + 1, none⟩ = some (.int .i64 (0 : Int)) := HC8.out
      have HS8 := kH hS8
      go_upto_region 8 with (fail)
      refine x09 (fun w' => w'.cell? ⟨b, k * 2, none⟩ = some (.int .i64 (x : Int)) /\ w'.cell? ⟨b, k * 2 + 1, none⟩ = some (.int .i64 (0 : Int))) 14 (by kernel_rfl) ?_
      refine tU 0 (.slice Al (natE out).length cl) rfl (fun w hw => by kernel_rfl) hS8 ?_
      refine tU 1 (.pointer (some ⟨b, k * 2, none⟩)) rfl (fun w hw => by kernel_rfl) hS8 ?_
      refine tU 2 (.pointer (some ⟨b, k * 2, none⟩)) rfl (fun w hw => by go_simp) hS8 ?_
      refine tU 3 (.pointer (some ⟨b, k * 2, none⟩)) rfl (fun w hw => by kernel_rfl) hS8 ?_
      refine tU 4 (.int .i64 (x : Int)) rfl (fun w hw => by have q := hw.1; go_simp) hS8 ?_
      refine tU 5 (.pointer (some ⟨b, k * 2, none⟩)) rfl (fun w hw => by kernel_rfl) hS8 ?_
      refine tU 6 (.pointer (some ⟨b, k * 2, none⟩)) rfl (fun w hw => by go_simp) hS8 ?_
      refine tU 7 (.pointer (some ⟨b, k * 2 + 1, none⟩)) rfl (fun w hw => by kernel_rfl) hS8 ?_
      refine tU 8 (.int .i64 (0 : Int)) rfl (fun w hw => by have q := hw.2; go_simp) hS8 ?_
      refine tU 9 (.int .i64 (x : Int)) rfl (fun w hw => by go_simp) hS8 ?_
      refine tU 10 (.int .i64 (y : Int)) rfl (fun w hw => by kernel_rfl) hS8 ?_
      refine tU 11 (.agg #[.int .i64 (x : Int), .int .i64 (y : Int)]) rfl (fun w hw => by go_simp) hS8 ?_
      refine tO 12 ?_
      refine x0A (v := .slice (some ⟨(wo.setCell ⟨b, k * 2 + 1, none⟩ (.int .i64 (0 : Int))).drew.heap.size, 0, none⟩) 1 1) (w' := ((wo.setCell ⟨b, k * 2 + 1, none⟩ (.int .i64 (0 : Int))).drew).alloc (.cells (ext1 ((x : Int), (y : Int))).toArray 198)) (by have hq := hbe ((wo.setCell ⟨b, k * 2 + 1, none⟩ (.int .i64 (0 : Int))).drew); go_simp; rfl) ⟨⟨(x1L hS8.1), (x1L hS8.2)⟩, ?_⟩
      simp only [nH, pu, nB, nC, nD]
      refine tO 13 ?_
      obtain ⟨i0, hi0, hz0, hz1, hz2⟩ := info_parts x3G
      refine x1A _ (.tmp 40) (.tmp 52) 135 rfl w.heap.size 198 i0 _ 2 16 underlying135 hi0 hz0 hz1 hz2 rfl (by omega) (.slice Al (natE out).length cl) (natE out).length (extS (natE out)) rfl HOUT.out _ (some ⟨_, 0, none⟩) 1 1 (extS [((x : Int), (y : Int))]) rfl (x41 _ _) (x46 _) (by simp only [maxLen]; have := HLEN.out; omega) (by have := HLEN.out; omega) (HSZ.out) ?_
      intro v' w' hown hgr hor
      have hown2 : OwnE w' w.heap.size v' (natE out ++ [((x : Int), (y : Int))]) := by unfold OwnE; rw [extS, flatMap_append, kN]; exact hown
      obtain ⟨hstep, hc0, hc1⟩ := HNEW.out.2.step (z := 0) hbl hgl hbg HNEW.out.1 hgr hown2
      rw [<- HKK.out] at hc0 hc1
      have hc1 : w'.cell? ⟨b, k * 2 + 1, none⟩ = some (.int .i64 0) := hc1
      have q10 : w'.cell? ⟨g, 2, none⟩ = some (.slice (some ⟨b, 0, none⟩) (k + 1) c) := by rw [(hstep 0).blk.cell, Array.getElem?_setIfInBounds_self_of_lt hcs, HKK.out]; rfl
      have f10 : w'.frozen? ⟨g, 2, none⟩ = false := (hstep 0).blk.frozen 2
      have hsl := x6H b (k + 1) c k (by omega)
      obtain ⟨A2, c2, rfl, -⟩ := (hstep 0).own.form
      have HSTEP := kH hstep
      clear hown hown2 hstep hgr hor
      refine ⟨⟨hc0, hc1⟩, ?_⟩
      simp only [nH, pu, nB, nC, nD]
      refine tZ ?_
      refine x0A (v := .slice A2 (natE (out ++ [(x, y)])).length c2) (w' := w') (by kernel_rfl) ?_
      simp only [nH, pu, nB, nC, nD]
      simp only [NoPanic, Exit.then]
      go_wp2
      refine ⟨⟨nn - y, r', out ++ [(x, y)], rfl, by rw [hlens] at hnl; omega, by omega, hrr', by simp at hrl; omega, by simp at hol hol2 ⊢; omega, by simp at hol hol2 ⊢; omega, ?_, by have h := (HSTEP.out 0).pop hbl hgl hbg (nn - y); rw [<- HKK.out] at h; exact h⟩, by simp [intS]; omega⟩
      rw [heq, x4Y hn0 (by omega)]
      simp
     ·obtain rfl : y = nn := by omega
      have hmin : decide ((y : Int) <= (y : Int)) = true := decide_eq_true (by omega)
      have hw2 : IntKind.i64.wrap ((y : Int) - (y : Int)) = 0 := by rw [kI]; omega
      have hw3 : IntKind.i64.wrap ((y : Int) - (y : Int)) = ((0 : Nat) : Int) := by rw [kI]; omega
      have hw4 : IntKind.i64.wrap ((x : Int) + 0) = (x : Int) := by rw [kI]; omega
      have hw5 : IntKind.i64.wrap (x : Int) = (x : Int) := by rw [kI]; omega
      obtain ⟨hnew, c0, c1, f1⟩ := hext.relen (0 : Int)
      rw [hlr, <- hk] at hnew c0 c1 f1
      have HC8 : Hid ((wo.setCell ⟨b, k * 2 + 1, none⟩ (.int .i64 (0 : Int))).drew.cell? ⟨b, k * 2, none⟩ = some (.int .i64 (x : Int)) /\ (wo.setCell ⟨b, k * 2 + 1, none⟩ (.int .i64 (0 : Int))).drew.cell? ⟨b, k * 2 + 1, none⟩ = some (.int .i64 (0 : Int))) := kH (by
       have h := hnew.relen (0 : Int)
       rw [hlr, <- hk] at h
       exact ⟨h.2.1, h.2.2.1⟩)
      have hsz : w.heap.size <= wo.heap.size := hS.only.size
      have hob : ∀ k2, (Value.slice Al (natE out).length cl).ownBlock = some k2 -> w.heap.size <= k2 := fun k2 hk2 => (kD hS.own k2 hk2).1
      have hout1 : OwnE (wo.setCell ⟨b, k * 2 + 1, none⟩ (.int .i64 (0 : Int))) w.heap.size (.slice Al (natE out).length cl) (natE out) := x06 hS.own fun k2 hk2 => kE _ _ _ _ (by have := hob k2 (x00.1 hk2); show k2 ≠ b; omega)
      have HOUT : Hid (OwnE (((wo.setCell ⟨b, k * 2 + 1, none⟩ (.int .i64 (0 : Int))).drew).alloc (.cells (ext1 ((x : Int), (y : Int))).toArray 198)) w.heap.size (.slice Al (natE out).length cl) (natE out)) := kH (x06 hout1 fun k2 hk2 => by
       have h1 := (kD hout1 k2 (x00.1 hk2)).2
       exact kG _ _ k2 h1)
      have HLEN : Hid ((natE out).length <= 1000001) := kH (by simp [natE]; simp at hol; omega)
      have HSZ : Hid (w.heap.size <= (((wo.setCell ⟨b, k * 2 + 1, none⟩ (.int .i64 (0 : Int))).drew).alloc (.cells (ext1 ((x : Int), (y : Int))).toArray 198)).heap.size) := kH (by
       simp [World.alloc, World.setCell, World.drew]
       omega)
      have HNEW := kH (kA hnew hS)
      clear hnew hS hext hrev hl2 hk hlr hsz hob hout1
      have hbe := x2F ((x : Int), (y : Int))
      have hS8 : (wo.setCell ⟨b, k * 2 + 1, none⟩ (.int .i64 (0 : Int))).drew.cell? ⟨b, k * 2, none⟩ = some (.int .i64 (x : Int)) /\ (wo.setCell ⟨b, k * 2 + 1, none⟩ (.int .i64 (0 : Int))).drew.cell? ⟨b, k * 2 + 1, none⟩ = some (.int .i64 (0 : Int)) := HC8.out
      have HS8 := kH hS8
      go_upto_region 8 with (fail)
      refine x09 (fun w' => w'.cell? ⟨b, k * 2, none⟩ = some (.int .i64 (x : Int)) /\ w'.cell? ⟨b, k * 2 + 1, none⟩ = some (.int .i64 (0 : Int))) 14 (by kernel_rfl) ?_
      refine tU 0 (.slice Al (natE out).length cl) rfl (fun w hw => by kernel_rfl) hS8 ?_
      refine tU 1 (.pointer (some ⟨b, k * 2, none⟩)) rfl (fun w hw => by kernel_rfl) hS8 ?_
      refine tU 2 (.pointer (some ⟨b, k * 2, none⟩)) rfl (fun w hw => by go_simp) hS8 ?_
      refine tU 3 (.pointer (some ⟨b, k * 2, none⟩)) rfl (fun w hw => by kernel_rfl) hS8 ?_
      refine tU 4 (.int .i64 (x : Int)) rfl (fun w hw => by have q := hw.1; go_simp) hS8 ?_
      refine tU 5 (.pointer (some ⟨b, k * 2, none⟩)) rfl (fun w hw => by kernel_rfl) hS8 ?_
      refine tU 6 (.pointer (some ⟨b, k * 2, none⟩)) rfl (fun w hw => by go_simp) hS8 ?_
      refine tU 7 (.pointer (some ⟨b, k * 2 + 1, none⟩)) rfl (fun w hw => by kernel_rfl) hS8 ?_
      refine tU 8 (.int .i64 (0 : Int)) rfl (fun w hw => by have q := hw.2; go_simp) hS8 ?_
      refine tU 9 (.int .i64 (x : Int)) rfl (fun w hw => by go_simp) hS8 ?_
      refine tU 10 (.int .i64 (y : Int)) rfl (fun w hw => by kernel_rfl) hS8 ?_
      refine tU 11 (.agg #[.int .i64 (x : Int), .int .i64 (y : Int)]) rfl (fun w hw => by go_simp) hS8 ?_
      refine tO 12 ?_
      refine x0A (v := .slice (some ⟨(wo.setCell ⟨b, k * 2 + 1, none⟩ (.int .i64 (0 : Int))).drew.heap.size, 0, none⟩) 1 1) (w' := ((wo.setCell ⟨b, k * 2 + 1, none⟩ (.int .i64 (0 : Int))).drew).alloc (.cells (ext1 ((x : Int), (y : Int))).toArray 198)) (by have hq := hbe ((wo.setCell ⟨b, k * 2 + 1, none⟩ (.int .i64 (0 : Int))).drew); go_simp; rfl) ⟨⟨(x1L hS8.1), (x1L hS8.2)⟩, ?_⟩
      simp only [nH, pu, nB, nC, nD]
      refine tO 13 ?_
      obtain ⟨i0, hi0, hz0, hz1, hz2⟩ := info_parts x3G
      refine x1A _ (.tmp 40) (.tmp 52) 135 rfl w.heap.size 198 i0 _ 2 16 underlying135 hi0 hz0 hz1 hz2 rfl (by omega) (.slice Al (natE out).length cl) (natE out).length (extS (natE out)) rfl HOUT.out _ (some ⟨_, 0, none⟩) 1 1 (extS [((x : Int), (y : Int))]) rfl (x41 _ _) (x46 _) (by simp only [maxLen]; have := HLEN.out; omega) (by have := HLEN.out; omega) (HSZ.out) ?_
      intro v' w' hown hgr hor
      have hown2 : OwnE w' w.heap.size v' (natE out ++ [((x : Int), (y : Int))]) := by unfold OwnE; rw [extS, flatMap_append, kN]; exact hown
      obtain ⟨hstep, hc0, hc1⟩ := HNEW.out.2.step (z := 0) hbl hgl hbg HNEW.out.1 hgr hown2
      rw [<- HKK.out] at hc0 hc1
      have hc1 : w'.cell? ⟨b, k * 2 + 1, none⟩ = some (.int .i64 0) := hc1
      have q10 : w'.cell? ⟨g, 2, none⟩ = some (.slice (some ⟨b, 0, none⟩) (k + 1) c) := by rw [(hstep 0).blk.cell, Array.getElem?_setIfInBounds_self_of_lt hcs, HKK.out]; rfl
      have f10 : w'.frozen? ⟨g, 2, none⟩ = false := (hstep 0).blk.frozen 2
      have hsl := x6H b (k + 1) c k (by omega)
      obtain ⟨A2, c2, rfl, -⟩ := (hstep 0).own.form
      have HSTEP := kH hstep
      clear hown hown2 hstep hgr hor
      refine ⟨⟨hc0, hc1⟩, ?_⟩
      simp only [nH, pu, nB, nC, nD]
      refine tZ ?_
      refine x0A (v := .slice A2 (natE (out ++ [(x, y)])).length c2) (w' := w') (by kernel_rfl) ?_
      simp only [nH, pu, nB, nC, nD]
      simp only [NoPanic, Exit.then]
      go_wp2
      refine ⟨⟨0, r', out ++ [(x, y)], rfl, by rw [hlens] at hnl; omega, by omega, hrr', by simp at hrl; omega, by simp at hol hol2 ⊢; omega, by exact .inr rfl, ?_, by have h := (HSTEP.out 0).pop hbl hgl hbg (0); rw [<- HKK.out] at h; exact h⟩, by simp [intS]; omega⟩
      rw [heq, x4Y hn0 (by omega)]
      simp
def reachesB (kd at_ ln : Int) (m : Nat) : Bool := if kd = 8 then decide (0 <= at_) && decide (at_ <= 65536 - m) else if kd = 10 then decide (0 <= at_) && decide (at_ <= 65536) else decide (0 <= at_) && decide (0 <= ln)
theorem x05 (w : World) (o : Obj) : Below w.heap.size w (w.alloc o) := (kB _ _).alloc (kR _) _
theorem xFY (kd at_ ln : Int) (nm : Value) (D : OA) (m c : Nat) (hm : m <= 1000000) (hnm : nm.cells = #[nm]) (w : World) : Calls prog 167 #[.agg #[.int .i64 kd, .int .i64 at_, .int .i64 ln, nm, .slice D m c]] w fun e w' => e = .returned (.bool (reachesB kd at_ ln m)) /\ Below w.heap.size w w' := by
 have hw : IntKind.i64.wrap (65536 - (m : Int)) = 65536 - (m : Int) := by rw [kI]; omega
 by_cases h8 : kd = 8
 ·subst h8
  by_cases ha : 0 <= at_
  ·have hda : decide (0 <= at_) = true := decide_eq_true ha
   go_enter func167, ntmps167
   go_wp2
   go_ret
   exact ⟨by simp [reachesB, hda], x05 _ _⟩
  ·have hda : decide (0 <= at_) = false := decide_eq_false ha
   go_enter func167, ntmps167
   go_wp2
   go_ret
   exact ⟨by simp [reachesB, hda], x05 _ _⟩
 ·have hd8 : decide (kd = 8) = false := decide_eq_false h8
  by_cases h10 : kd = 10
  ·subst h10
   by_cases ha : 0 <= at_
   ·have hda : decide (0 <= at_) = true := decide_eq_true ha
    go_enter func167, ntmps167
    go_wp2
    go_ret
    exact ⟨by simp [reachesB, hda], x05 _ _⟩
   ·have hda : decide (0 <= at_) = false := decide_eq_false ha
    go_enter func167, ntmps167
    go_wp2
    go_ret
    exact ⟨by simp [reachesB, hda], x05 _ _⟩
  ·have hd10 : decide (kd = 10) = false := decide_eq_false h10
   by_cases ha : 0 <= at_
   ·have hda : decide (0 <= at_) = true := decide_eq_true ha
    go_enter func167, ntmps167
    go_wp2
    go_ret
    exact ⟨by simp [reachesB, hda, h8, h10], x05 _ _⟩
   ·have hda : decide (0 <= at_) = false := decide_eq_false ha
    go_enter func167, ntmps167
    go_wp2
    go_ret
    exact ⟨by simp [reachesB, hda, h8, h10], x05 _ _⟩
section
inductive Rel2 {α β : Type} (R : α -> β -> Prop) : List α -> List β -> Prop
 | nil : Rel2 R [] []
 | cons {a : α} {b : β} {l : List α} {m : List β} : R a b -> Rel2 R l m -> Rel2 R (a :: l) (b :: m)
section
variable {α β : Type} {R S : α -> β -> Prop} {l : List α} {m : List β}
theorem Rel2.len (h : Rel2 R l m) : l.length = m.length := by
 induction h with
 | nil => rfl
 | cons _ _ ih => simp [ih]
theorem Rel2.imp (h : Rel2 R l m) (hi : ∀ a b, R a b -> S a b) : Rel2 S l m := by
 induction h with
 | nil => exact .nil
 | cons h1 _ ih => exact .cons (hi _ _ h1) ih
theorem Rel2.at_ (h : Rel2 R l m) {a : α} (hk : l[k]? = some a) : ∃ b, m[k]? = some b /\ R a b := by
 induction h generalizing k with
 | nil => simp at hk
 | cons h1 _ ih =>
  cases k with
  | zero => simp at hk; subst hk; exact ⟨_, rfl, h1⟩
  | succ k => exact ih (by simpa using hk)
theorem Rel2.at' (h : Rel2 R l m) {b : β} (hk : m[k]? = some b) : ∃ a, l[k]? = some a /\ R a b := by
 induction h generalizing k with
 | nil => simp at hk
 | cons h1 _ ih =>
  cases k with
  | zero => simp at hk; subst hk; exact ⟨_, rfl, h1⟩
  | succ k => exact ih (by simpa using hk)
theorem Rel2.app {l' : List α} {m' : List β} (h : Rel2 R l m) (h' : Rel2 R l' m') : Rel2 R (l ++ l') (m ++ m') := by
 induction h with
 | nil => exact h'
 | cons h1 _ ih => exact .cons h1 ih
end
section
variable {V : Type}
def gget (l : List (Key × V)) (k : Key) : Option V := (l.find? fun p => p.1 == k).map (·.2)
def gins (x : Key × V) : List (Key × V) -> List (Key × V)
 | [] => [x]
 | y :: r => if bytesBefore x.1 y.1 then x :: y :: r else y :: gins x r
def gdel (k : Key) (l : List (Key × V)) : List (Key × V) := l.filter fun p => !(p.1 == k)
def gput (k : Key) (v : V) (l : List (Key × V)) : List (Key × V) := gins (k, v) (gdel k l)
theorem xDG (x : Key × V) : ∀ l : List (Key × V), (gins x l).length = l.length + 1
 | [] => rfl
 | y :: r => by
  rw [gins]
  split
  ·rfl
  ·simp [xDG x r]
theorem x9B (k : Key) (l : List (Key × V)) : (gdel k l).length <= l.length := List.length_filter_le _ _
theorem x5U (k : Key) (v : V) (l : List (Key × V)) : (gput k v l).length <= l.length + 1 := by
 unfold gput
 rw [xDG]
 have := x9B k l
 omega
theorem x76 (x : Key × V) : ∀ l : List (Key × V), (gins x l).Perm (x :: l)
 | [] => List.Perm.refl _
 | y :: r => by
  rw [gins]
  split
  ·exact List.Perm.refl _
  ·exact ((x76 x r).cons y).trans (List.Perm.swap x y r)
theorem x3I (k : Key) (v : V) (l : List (Key × V)) : (gput k v l).Perm ((k, v) :: gdel k l) := x76 _ _
theorem x1S {l : List (Key × V)} {k : Key} {v : V} (h : gget l k = some v) : (k, v) ∈ l := by
 unfold gget at h
 cases hf : l.find? (fun p => p.1 == k) with
 | none => rw [hf] at h; cases h
 | some p =>
  rw [hf] at h
  simp at h
  have h1 := List.find?_some hf
  have h2 := List.mem_of_find?_eq_some hf
  simp at h1
  subst h h1
  exact h2
theorem xC4 {l : List (Key × V)} {k : Key} (h : gget l k = none) : ∀ p ∈ l, p.1 ≠ k := by
 unfold gget at h
 simp at h
 intro p hp e
 exact h p.1 p.2 hp e
def Keys1 (l : List (Key × V)) : Prop := (l.map (·.1)).Nodup
theorem Keys1.del {l : List (Key × V)} (h : Keys1 l) (k : Key) : Keys1 (gdel k l) := List.Nodup.sublist (List.filter_sublist.map _) h
theorem x70 (k : Key) (l : List (Key × V)) : ∀ p ∈ gdel k l, p.1 ≠ k /\ p ∈ l := fun p hp => by
 simp [gdel] at hp
 exact ⟨hp.2, hp.1⟩
theorem Keys1.put {l : List (Key × V)} (h : Keys1 l) (k : Key) (v : V) : Keys1 (gput k v l) := by
 unfold Keys1
 rw [((x3I k v l).map (·.1)).nodup_iff]
 simp only [map_cons, nodup_cons]
 refine ⟨fun hm => ?_, h.del k⟩
 obtain ⟨p, hp, e⟩ := List.mem_map.1 hm
 exact (x70 k l p hp).1 e
theorem Keys1.get {l : List (Key × V)} (h : Keys1 l) {p : Key × V} (hp : p ∈ l) : gget l p.1 = some p.2 := by
 unfold gget
 have : l.find? (fun q => q.1 == p.1) = some p := by
  induction l with
  | nil => cases hp
  | cons q l ih =>
   unfold Keys1 at h
   simp only [map_cons, nodup_cons] at h
   rw [find?_cons]
   by_cases e : q.1 = p.1
   ·have : (q.1 == p.1) = true := by simpa using e
    rw [this]
    rcases kQ hp with rfl | hp
    ·rfl
    ·exact absurd (List.mem_map.2 ⟨p, hp, e.symm⟩) h.1
   ·have : (q.1 == p.1) = false := by simpa using e
    rw [this]
    rcases kQ hp with rfl | hp
    ·exact absurd rfl e
    ·exact ih h.2 hp
 rw [this]
 rfl
theorem xB9 {l : List (Key × V)} (h : Keys1 l) {k : Key} {v : V} (hg : gget l k = some v) : l.Perm ((k, v) :: gdel k l) := by
 induction l with
 | nil => cases hg
 | cons q l ih =>
  unfold Keys1 at h
  simp only [map_cons, nodup_cons] at h
  unfold gget at hg
  rw [find?_cons] at hg
  unfold gdel
  rw [filter_cons]
  by_cases e : q.1 = k
  ·have he : (q.1 == k) = true := by simpa using e
   rw [he] at hg ⊢
   simp at hg
   have hq : q = (k, v) := by rw [<- e, <- hg]
   have hd : l.filter (fun p => !(p.1 == k)) = l := filter_eq_self.2 fun p hp => by
    have : (p.1 == k) = false := by simpa using fun e' : p.1 = k => h.1 (List.mem_map.2 ⟨p, hp, e'.trans e.symm⟩)
    rw [this]; rfl
   simp only [Bool.not_true, Bool.false_eq_true, if_false]
   rw [hd, hq]
  ·have he : (q.1 == k) = false := by simpa using e
   rw [he] at hg ⊢
   simp only [Bool.not_false, if_true]
   exact ((ih h.2 hg).cons q).trans (List.Perm.swap _ _ _)
theorem xBC {l : List (Key × V)} {k : Key} (hg : gget l k = none) : gdel k l = l := filter_eq_self.2 fun p hp => by
 simp
 exact xC4 hg p hp
end
section
variable {V : Type} {R : Key × Value -> Key × V -> Prop} {kv : KV} {l : List (Key × V)}
theorem Rel2.ins (hk : ∀ p q, R p q -> p.1 = q.1) (h : Rel2 R kv l) {x : Key × Value} {y : Key × V} (hx : R x y) : Rel2 R (ains x kv) (gins y l) := by
 induction h with
 | nil => exact .cons hx .nil
 | @cons a b l m h1 h2 ih =>
  rw [ains, gins, hk _ _ hx, hk _ _ h1]
  split
  ·exact .cons hx (.cons h1 h2)
  ·exact .cons h1 ih
theorem Rel2.del (hk : ∀ p q, R p q -> p.1 = q.1) (h : Rel2 R kv l) (k : Key) : Rel2 R (adel k kv) (gdel k l) := by
 induction h with
 | nil => exact .nil
 | @cons a b l m h1 h2 ih =>
  unfold adel gdel at ih ⊢
  rw [filter_cons, filter_cons, hk _ _ h1]
  split
  ·exact .cons h1 ih
  ·exact ih
theorem Rel2.put (hk : ∀ p q, R p q -> p.1 = q.1) (h : Rel2 R kv l) {k : Key} {v : Value} {u : V} (hx : R (k, v) (k, u)) : Rel2 R (aput k v kv) (gput k u l) := (h.del hk k).ins hk hx
theorem Rel2.get (hk : ∀ p q, R p q -> p.1 = q.1) (h : Rel2 R kv l) (k : Key) : (aget kv k = none /\ gget l k = none) ∨ ∃ v u, aget kv k = some v /\ gget l k = some u /\ R (k, v) (k, u) := by
 induction h with
 | nil => exact .inl ⟨rfl, rfl⟩
 | @cons a b l m h1 h2 ih =>
  unfold aget gget at ih ⊢
  rw [find?_cons, find?_cons, hk _ _ h1]
  by_cases e : b.1 = k
  ·have he : (b.1 == k) = true := by simpa using e
   rw [he]
   have ha : a = (k, a.2) := by rw [<- e, <- hk _ _ h1]
   have hb : b = (k, b.2) := by rw [<- e]
   refine .inr ⟨a.2, b.2, rfl, rfl, ?_⟩
   rw [<- ha, <- hb]
   exact h1
  ·have he : (b.1 == k) = false := by simpa using e
   rw [he]
   exact ih
theorem Rel2.keys (hk : ∀ p q, R p q -> p.1 = q.1) (h : Rel2 R kv l) : kv.map (·.1) = l.map (·.1) := by
 induction h with
 | nil => rfl
 | cons h1 _ ih => simp [hk _ _ h1, ih]
end
structure StepV where
 kd : Int
 at_ : Int
 ln : Int
 nm : LN
 dt : LN
abbrev AL := List (Key × LN)
structure Ob where
 d : LN
 a : AL
 e : List (Nat × Nat)
structure Wk where
 th : Bool
 d : LN
 a : AL
 e : List (Nat × Nat)
 told : List LN
structure Mod where
 bl : List Bool
 fl : List Bool
 ob : List (Key × Ob)
def needsB (d : LN) : Nat := (d.length + 15) / 16
def partB (d : LN) (at_ n : Nat) : LN := (d.drop (min at_ d.length)).take (min n (d.length - min at_ d.length))
def zeroB (d : LN) (at_ n : Nat) : LN := d.take (min at_ d.length) ++ List.replicate (min n (d.length - min at_ d.length)) 0 ++ d.drop (min at_ d.length + min n (d.length - min at_ d.length))
def insideW (W : Wk) (x : StepV) : Wk × Nat :=
 if x.kd = 11 then (if isNameB x.nm && decide (x.dt.length <= 1024) then ({W with a := gput (keyB x.nm) x.dt W.a}, 0) else (W, 1))
 else if x.kd = 12 then ({W with a := gdel (keyB x.nm) W.a}, 0)
 else if x.kd = 14 then (match gget W.a (keyB x.nm) with | some v => ({W with told := W.told ++ [v]}, 0) | none => (W, 6))
 else if reachesB x.kd x.at_ x.ln x.dt.length = false then (W, 1)
 else if x.kd = 8 then ({W with d := writeB W.d x.at_.toNat x.dt}, 0)
 else if x.kd = 9 then ({W with d := zeroB W.d x.at_.toNat x.ln.toNat}, 0)
 else if x.kd = 10 then ({W with d := resizeB W.d x.at_.toNat}, 0)
 else ({W with told := W.told ++ [partB W.d x.at_.toNat x.ln.toNat]}, 0)
def becomeW (W : Wk) (b : Bool) : Wk := if W.th = b then W else {W with th := b, d := [], a := []}
def needW (bl : List Bool) (W : Wk) (x : StepV) : Nat :=
 if x.kd = 1 then (if W.th then 0 else 6)
 else if x.kd = 2 then (if W.th then 5 else 0)
 else if x.kd = 3 then (if gget W.a (keyB x.nm) = some x.dt then 0 else 7)
 else if x.kd = 4 then (if gget W.a (keyB x.nm) = none then 0 else 7)
 else if isClientB x.at_ then (if bl.getD x.at_.toNat false then 8 else 0) else 1
def stepW (bl : List Bool) (W : Wk) (x : StepV) : Wk × Nat :=
 if 1 <= x.kd /\ x.kd <= 5 then (W, needW bl W x)
 else if x.kd = 6 then (becomeW W true, 0)
 else if x.kd = 7 then (becomeW W false, 0)
 else if 8 <= x.kd /\ x.kd <= 14 then (if W.th then insideW W x else (W, 6))
 else (W, 2)
def runW (bl : List Bool) : Wk -> List StepV -> Wk × Nat
 | W, [] => (W, 0)
 | W, x :: xs => if (stepW bl W x).2 = 0 then runW bl (stepW bl W x).1 xs else stepW bl W x
def startW (M : Mod) (k : Key) : Wk := match gget M.ob k with | some o => ⟨true, o.d, o.a, o.e, []⟩ | none => ⟨false, [], [], [], []⟩
inductive FitR (fl : List Bool) (W : Wk) : List (Nat × Nat) -> List Bool -> Nat -> Prop
 | give : needsB W.d < lens W.e -> FitR fl W (shedR W.e.reverse (lens W.e - needsB W.d)).1.reverse (setA fl (shedR W.e.reverse (lens W.e - needsB W.d)).2 true) 0
 | full : lens W.e <= needsB W.d -> cnt fl < needsB W.d - lens W.e -> FitR fl W W.e fl 4
 | take {out : List (Nat × Nat)} : lens W.e <= needsB W.d -> needsB W.d - lens W.e <= cnt fl -> Chosen (hol 0 fl) (needsB W.d - lens W.e) out -> FitR fl W (W.e ++ out) (setA fl out false) 0
def endM (M : Mod) (k : Key) (W : Wk) (es : List (Nat × Nat)) (fl : List Bool) : Mod := {M with fl := fl, ob := if W.th then gput k ⟨W.d, W.a, es⟩ M.ob else gdel k M.ob}
inductive DoR (M : Mod) (nm : LN) (xs : List StepV) : Mod -> Nat -> List LN -> Prop
 | range : (isNameB nm = false ∨ xs.length < 1 ∨ 16 < xs.length) -> DoR M nm xs M 1 []
 | step : isNameB nm = true -> 1 <= xs.length -> xs.length <= 16 -> (runW M.bl (startW M (keyB nm)) xs).2 ≠ 0 -> DoR M nm xs M (runW M.bl (startW M (keyB nm)) xs).2 []
 | full {es : List (Nat × Nat)} {fl : List Bool} : isNameB nm = true -> 1 <= xs.length -> xs.length <= 16 -> (runW M.bl (startW M (keyB nm)) xs).2 = 0 -> FitR M.fl (runW M.bl (startW M (keyB nm)) xs).1 es fl 4 -> DoR M nm xs M 4 []
 | done {es : List (Nat × Nat)} {fl : List Bool} : isNameB nm = true -> 1 <= xs.length -> xs.length <= 16 -> (runW M.bl (startW M (keyB nm)) xs).2 = 0 -> FitR M.fl (runW M.bl (startW M (keyB nm)) xs).1 es fl 0 -> DoR M nm xs (endM M (keyB nm) (runW M.bl (startW M (keyB nm)) xs).1 es fl) 0 (runW M.bl (startW M (keyB nm)) xs).1.told
end
section
def Small (bs : LN) : Prop := ∀ b ∈ bs, b < 256
theorem x0J {W : World} {size : Nat} {v : Value} (h : W.ownsRow base e size v n xs) (hk : v.ownBlock = some k) : ∃ cs, Blk W k e cs := by
 rcases h.2 with ⟨rfl, _⟩ | ⟨g, c, cur, rfl, hb, hh, _⟩
 ·simp [Value.ownBlock] at hk
 ·simp [Value.ownBlock] at hk
  subst hk
  exact ⟨cur, hh⟩
theorem x13 {size : Nat} {v : Value} (h : w.ownsRow base e size v n xs) (ho : Only G w w') (hG : ∀ k ∈ rowOf v, k ∉ G) : w'.ownsRow base e size v n xs :=
  x06 h fun k hk => ho.block k (x02 h k hk) (hG k hk)
def Odd (w : World) (e : TypeId) (k : Nat) : Prop := ∀ cs, ¬ Blk w k e cs
theorem Odd.blk {cs : Array Value} (h : Blk w k t cs) (hne : t ≠ e) : Odd w e k := fun cs' h' => h.ne_ h' hne rfl
theorem Odd.map {kt : TypeId} (h : SMap P kt w k l) : Odd w e k := fun cs' h' => h.ne_blk h' rfl
theorem x0N {size : Nat} {v : Value} (h : w.ownsRow base e size v n xs) (ho : Only G w w') (hG : ∀ k ∈ G, Odd w e k) : w'.ownsRow base e size v n xs :=
 x13 h ho fun k hk hm => by
  obtain ⟨cs, hb⟩ := x0J h (x00.1 hk)
  exact hG k hm cs hb
def RowR (w : World) (base : Nat) (F : LN) (u : Value) (bs : LN) : Prop := ∃ A c, u = .slice A bs.length c /\ Own w base u bs.length bs /\ Small bs /\ ∀ k ∈ rowOf u, k ∉ F
theorem RowR.only (h : RowR w base F u bs) (ho : Only G w w') (hG : ∀ k ∈ G, k ∈ F ∨ Odd w 5 k) : RowR w' base F u bs := by
 obtain ⟨A, c, rfl, h1, h2, h3⟩ := h
 refine ⟨A, c, rfl, x13 h1 ho fun k hk hm => ?_, h2, h3⟩
 rcases hG k hm with hf | hf
 ·exact h3 k hk hf
 ·obtain ⟨cs, hb⟩ := x0J h1 (x00.1 hk)
  exact hf cs hb
theorem RowR.below (h : RowR w base F u bs) (hb : Below w.heap.size w w') : RowR w' base F u bs := by
 obtain ⟨A, c, rfl, h1, h2, h3⟩ := h
 exact ⟨A, c, rfl, h1.below hb, h2, h3⟩
theorem RowR.far {F' : LN} (h : RowR w base F u bs) (hF : ∀ k ∈ F', k ∈ F ∨ w.heap.size <= k) : RowR w base F' u bs := by
 obtain ⟨A, c, rfl, h1, h2, h3⟩ := h
 refine ⟨A, c, rfl, h1, h2, fun k hk hm => ?_⟩
 rcases hF k hm with hf | hf
 ·exact h3 k hk hf
 ·have := x02 h1 k hk; omega
theorem RowR.weaken {base' : Nat} (h : RowR w base F u bs) (hb : base' <= base) : RowR w base' F u bs := by
 obtain ⟨A, c, rfl, h1, h2, h3⟩ := h
 exact ⟨A, c, rfl, h1.weaken hb, h2, h3⟩
def AttrR (w : World) (F : LN) (p : Key × Value) (q : Key × LN) : Prop := p.1 = q.1 /\ RowR w 0 F p.2 q.2
theorem AttrR.key (p : Key × Value) (q : Key × LN) (h : AttrR w F p q) : p.1 = q.1 := h.1
def objC (D : OA) (n c : Nat) (av : Value) (E : OA) (m ce : Nat) : Array Value := #[.slice D n c, av, .slice E m ce]
structure ObAt (w : World) (go mb c ce : Nat) (D E : OA) (kv : KV) (o : Ob) : Prop where
 blk : Blk w go 137 (objC D o.d.length c (.map (some mb)) E o.e.length ce)
 dat : Own w 0 (.slice D o.d.length c) o.d.length o.d
 ok : Small o.d
 map : SMap prog 9 w mb kv
 att : Rel2 (AttrR w []) kv o.a
 ext : OwnE w 0 (.slice E o.e.length ce) (natE o.e)
theorem ObAt.below {go : Nat} {o : Ob} (h : ObAt w go mb c ce D E kv o) (hb : Below w.heap.size w w') : ObAt w' go mb c ce D E kv o :=
  ⟨h.blk.of (hb.block _ h.blk.lt), h.dat.below hb, h.ok, h.map.of (hb.block _ h.map.lt), h.att.imp fun a b hr => ⟨hr.1, hr.2.below hb⟩, h.ext.below hb (x02 h.ext)⟩
theorem ObAt.only {go : Nat} {o : Ob} (h : ObAt w go mb c ce D E kv o) (ho : Only G w w') (hG : ∀ k ∈ G, k < w.heap.size -> Odd w 137 k /\ Odd w 5 k /\ Odd w 198 k) (hm : mb ∉ G) : ObAt w' go mb c ce D E kv o := by
 have hu : ∀ {base size n : Nat} {e : TypeId} {v : Value} {xs : List Value}, w.ownsRow base e size v n xs -> (∀ k ∈ G, k < w.heap.size -> Odd w e k) -> w'.ownsRow base e size v n xs := fun h1 hx => x13 h1 ho fun k hk hm => by
  obtain ⟨cs, hb⟩ := x0J h1 (x00.1 hk)
  exact hx k hm (x02 h1 k hk) cs hb
 refine ⟨h.blk.of (ho.block _ h.blk.lt fun hm => (hG _ hm h.blk.lt).1 _ h.blk), hu h.dat fun k hk hl => (hG k hk hl).2.1, h.ok, h.map.of (ho.block _ h.map.lt hm), h.att.imp fun a b hr => ⟨hr.1, ?_⟩, hu h.ext fun k hk hl => (hG k hk hl).2.2⟩
 obtain ⟨A, c, e, h1, h2, h3⟩ := hr.2
 exact ⟨A, c, e, hu h1 fun k hk hl => (hG k hk hl).2.1, h2, h3⟩
def workC (D : OA) (n c : Nat) (av : Value) (E : OA) (m ce : Nat) (th : Bool) (T : OA) (k ct gs : Nat) : Array Value := #[.slice D n c, av, .slice E m ce, .bool th, .slice T k ct, .pointer (some ⟨gs, 0, none⟩)]
structure WkAt (w : World) (B gw gs c ce ct : Nat) (D E T : OA) (av : Value) (kv : KV) (tv : List Value) (W : Wk) : Prop where
 blk : Blk w gw 139 (workC D W.d.length c av E W.e.length ce W.th T W.told.length ct gs)
 gB : B <= gw
 dat : Own w B (.slice D W.d.length c) W.d.length W.d
 ok : Small W.d
 map : (av = .map none /\ kv = [] /\ W.th = false) ∨ ∃ mb, av = .map (some mb) /\ B <= mb /\ SMap prog 9 w mb kv
 att : Rel2 (AttrR w (rowOf (.slice D W.d.length c))) kv W.a
 ext : OwnE w B (.slice E W.e.length ce) (natE W.e)
 tol : w.ownsRow B 35 1 (.slice T W.told.length ct) W.told.length tv
 els : Rel2 (RowR w B (rowOf (.slice D W.d.length c))) tv W.told
def Wkd (w : World) (B gw gs : Nat) (W : Wk) : Prop := ∃ c ce ct D E T av kv tv, WkAt w B gw gs c ce ct D E T av kv tv W
section
variable {w w' : World} {B gw gs c ce ct : Nat} {D E T : OA} {av : Value} {kv : KV} {tv : List Value} {W : Wk}
theorem WkAt.below (h : WkAt w B gw gs c ce ct D E T av kv tv W) (hb : Below w.heap.size w w') : WkAt w' B gw gs c ce ct D E T av kv tv W :=
 ⟨h.blk.of (hb.block _ h.blk.lt), h.gB, h.dat.below hb, h.ok, by
  rcases h.map with e | ⟨mb, e, h1, h2⟩
  ·exact .inl e
  ·exact .inr ⟨mb, e, h1, h2.of (hb.block _ h2.lt)⟩, h.att.imp fun a b hr => ⟨hr.1, hr.2.below hb⟩, h.ext.below hb (x02 h.ext), x06 h.tol fun k hk => hb.block k (x02 h.tol k hk), h.els.imp fun a b hr => hr.below hb⟩
theorem xA8 {v : Value} (h : Own w B v n bs) : ∀ k ∈ rowOf v, ∃ cs, Blk w k 5 cs := fun k hk => x0J h (x00.1 hk)
theorem WkAt.data (h : WkAt w B gw gs c ce ct D E T av kv tv W) {D' : OA} {n' c' : Nat} {d' : LN} (hb : Blk w' gw 139 ((workC D W.d.length c av E W.e.length ce W.th T W.told.length ct gs).setIfInBounds 0 (.slice D' n' c')))
 (hd : Own w' B (.slice D' n' c') n' d') (ho : Only (gw :: rowOf (.slice D W.d.length c)) w w') (hn : D' = D ∨ ∃ b, D' = some ⟨b, 0, none⟩ /\ w.heap.size <= b) (hs : Small d') : Wkd w' B gw gs {W with d := d'} := by
 have hl : n' = d'.length := by have := hd.len; omega
 subst hl
 have hG : ∀ (e : TypeId), e ≠ 139 -> e ≠ 5 -> ∀ k ∈ gw :: rowOf (.slice D W.d.length c), Odd w e k := fun e h1 h2 k hk => by
  rcases kQ hk with rfl | hk
  ·exact Odd.blk h.blk h1.symm
  ·obtain ⟨cs, hb⟩ := xA8 h.dat k hk
   exact Odd.blk hb h2.symm
 have hF : ∀ k ∈ rowOf (.slice D' d'.length c'), k ∈ rowOf (.slice D W.d.length c) ∨ w.heap.size <= k := fun k hk => by
  rcases hn with rfl | ⟨b, rfl, hb⟩
  ·left
   have hk := x00.1 hk
   refine x00.2 ?_
   cases D' with
   | none => simp [Value.ownBlock] at hk
   | some a => simpa [Value.ownBlock] using hk
  ·right
   have hk := x00.1 hk
   simp [Value.ownBlock] at hk
   omega
 have hrow : ∀ {base : Nat} {u : Value} {bs : LN}, RowR w base (rowOf (.slice D W.d.length c)) u bs -> RowR w' base (rowOf (.slice D' d'.length c')) u bs := fun {base u bs} hr => by
  obtain ⟨A, c, e, h1, h2, h3⟩ := hr.far hF
  obtain ⟨A2, c2, e2, h4, h5, h6⟩ := hr.only ho (fun k hk => by
   rcases kQ hk with rfl | hk
   ·exact .inr (Odd.blk h.blk (by decide))
   ·exact .inl hk)
  exact ⟨A, c, e, h4, h2, h3⟩
 refine ⟨c', ce, ct, D', E, T, av, kv, tv, ⟨hb, h.gB, hd, hs, ?_, h.att.imp fun a b hr => ⟨hr.1, hrow hr.2⟩, x0N h.ext ho (hG _ (by decide) (by decide)), x0N h.tol ho (hG _ (by decide) (by decide)), h.els.imp fun a b hr => hrow hr⟩⟩
 rcases h.map with e | ⟨mb, e, h1, h2⟩
 ·exact .inl e
 ·refine .inr ⟨mb, e, h1, h2.of (ho.block mb h2.lt fun hm => ?_)⟩
  rcases kQ hm with rfl | hm
  ·exact h2.ne_blk h.blk rfl
  ·obtain ⟨cs, hb⟩ := xA8 h.dat mb hm
   exact h2.ne_blk hb rfl
theorem WkAt.tells (h : WkAt w B gw gs c ce ct D E T av kv tv W) {T' : OA} {ct' : Nat} {v : Value} (hb : Blk w' gw 139 ((workC D W.d.length c av E W.e.length ce W.th T W.told.length ct gs).setIfInBounds 4 (.slice T' (W.told.length + 1) ct')))
  (ho : Only (gw :: rowOf (.slice T W.told.length ct)) w w') (hT : w'.ownsRow B 35 1 (.slice T' (W.told.length + 1) ct') (W.told.length + 1) (tv ++ [v])) (hv : RowR w' B (rowOf (.slice D W.d.length c)) v bs) : Wkd w' B gw gs {W with told := W.told ++ [bs]} := by
 have hG : ∀ (e : TypeId), e ≠ 139 -> e ≠ 35 -> ∀ k ∈ gw :: rowOf (.slice T W.told.length ct), Odd w e k := fun e h1 h2 k hk => by
  rcases kQ hk with rfl | hk
  ·exact Odd.blk h.blk h1.symm
  ·obtain ⟨cs, hb⟩ := x0J h.tol (x00.1 hk)
   exact Odd.blk hb h2.symm
 have hrow : ∀ {base : Nat} {u : Value} {bs : LN}, RowR w base (rowOf (.slice D W.d.length c)) u bs -> RowR w' base (rowOf (.slice D W.d.length c)) u bs := fun {base u bs} hr => hr.only ho fun k hk => .inr (hG _ (by decide) (by decide) k hk)
 have hlen : (W.told ++ [bs]).length = W.told.length + 1 := by simp
 refine ⟨c, ce, ct', D, E, T', av, kv, tv ++ [v], ⟨by simp only [hlen]; exact hb, h.gB, x0N h.dat ho (hG _ (by decide) (by decide)), h.ok, ?_, h.att.imp fun a b hr => ⟨hr.1, hrow hr.2⟩, x0N h.ext ho (hG _ (by decide) (by decide)), by simp only [hlen]; exact hT, (h.els.imp fun a b hr => hrow hr).app (.cons hv .nil)⟩⟩
 rcases h.map with e | ⟨mb, e, h1, h2⟩
 ·exact .inl e
 ·refine .inr ⟨mb, e, h1, h2.of (ho.block mb h2.lt fun hm => ?_)⟩
  rcases kQ hm with rfl | hm
  ·exact h2.ne_blk h.blk rfl
  ·obtain ⟨cs, hb⟩ := x0J h.tol (x00.1 hm)
   exact h2.ne_blk hb rfl
theorem WkAt.attrs (h : WkAt w B gw gs c ce ct D E T av kv tv W) (hav : av = .map (some mb)) {kv' : KV} {a' : AL} (ho : Only [mb] w w') (hm : SMap prog 9 w' mb kv') (ha : Rel2 (AttrR w' (rowOf (.slice D W.d.length c))) kv' a') : Wkd w' B gw gs {W with a := a'} := by
 obtain ⟨hB, h2⟩ : B <= mb /\ SMap prog 9 w mb kv := by
  rcases h.map with ⟨e, _⟩ | ⟨mb', e, h1, h2⟩
  ·rw [e] at hav; cases hav
  ·rw [e] at hav
   injection hav with hav
   injection hav with hav
   subst hav
   exact ⟨h1, h2⟩
 have hG : ∀ (e : TypeId), ∀ k ∈ [mb], Odd w e k := fun e k hk => by
  simp at hk
  subst hk
  exact Odd.map h2
 exact ⟨c, ce, ct, D, E, T, av, kv', tv, ⟨h.blk.of (ho.block _ h.blk.lt fun hk => by simp at hk; exact h2.ne_blk h.blk hk.symm), h.gB, x0N h.dat ho (hG _), h.ok, .inr ⟨mb, hav, hB, hm⟩, ha, x0N h.ext ho (hG _), x0N h.tol ho (hG _), h.els.imp fun a b hr => hr.only ho fun k hk => .inr (hG _ k hk)⟩⟩
end
end
section
def DM.up (b : Bool) (n : Nat) (f : Int -> Sec) (s l : Nat) : DM := ⟨n, f, [], s, b, l, false⟩
def others (w : World) (F : LN) : LN := (List.range w.heap.size).filter fun k => decide (k ∉ F)
theorem x11 : k ∈ others w F ↔ k < w.heap.size /\ k ∉ F := by simp [others]
def jf (gj : Nat) (vt : Value) (F : LN) : LN := gj :: (rowOf vt ++ F)
structure JX (w0 w : World) (g gj : Nat) (d : DM) (n gen : Nat) (st : LN) (txs : List LN) (u : Nat) (F : LN) (A : OA) (c : Nat) (vt : Value) (us : List Value) : Prop where
 disk : DiskAt w w0.heap.size F g d
 bel : Below w0.heap.size w0 w
 sep : ∀ k ∈ txBlks vt us ++ (blkOf A ++ [gj]), k < w.heap.size /\ k ∉ F
 jb : Blk w gj 176 (jcells n g gen (.slice A st.length c) vt u false)
 own : Own w w0.heap.size (.slice A st.length c) st.length st
 tx : TxRows w w0.heap.size vt txs us
 gjN : w0.heap.size <= gj
theorem x32 {w0 : World} {d : DM} (h1 : DiskAt w w0.heap.size F g d) (h2 : Below w0.heap.size w0 w) : Holds w0 w g d (others w F) :=
  ⟨F, h1, h2, fun k hk => ⟨(x11.1 hk).2, (x11.1 hk).1⟩⟩
theorem x52 {w0 : World} {d' : DM} {X : LN} (hb : Below w0.heap.size w0 w) (hX : ∀ k ∈ others w F, k ∈ X) (h : Holds w0 w' g d' X) (hs : w.heap.size <= w'.heap.size) (hk : ∀ k ∈ others w F, k ∉ G -> w'.heap[k]? = w.heap[k]?) :
  ∃ F', DiskAt w' w0.heap.size F' g d' /\ Below w0.heap.size w0 w' /\ Fresh w F F' /\ Only (G ++ F) w w' /\ ∀ k ∈ X, k < w'.heap.size /\ k ∉ F' := by
 obtain ⟨F', h1, h2, h3⟩ := h
 refine ⟨F', h1, h2, fun k hk' => ?_, ⟨h2.os.trans hb.os.symm, h2.tape.trans hb.tape.symm, h2.output.trans hb.output.symm, hs, fun k hl hn => ?_⟩, fun k hk' => ⟨(h3 k hk').2, (h3 k hk').1⟩⟩
 ·by_cases hF : k ∈ F
  ·exact .inl hF
  ·by_cases hl : k < w.heap.size
   ·exact absurd hk' (h3 k (hX k (x11.2 ⟨hl, hF⟩))).1
   ·exact .inr (by omega)
 ·rw [mem_append, not_or] at hn
  exact hk k (x11.2 ⟨hl, hn.2⟩) hn.1
section
variable {w0 w w' : World} {g gj n gen u c : Nat} {d : DM} {st : LN} {txs : List LN} {F : LN} {A : OA} {vt : Value} {us : List Value}
theorem JX.gjO (h : JX w0 w g gj d n gen st txs u F A c vt us) : gj ∈ others w F := x11.2 (h.sep gj (by simp))
theorem JX.vtO (h : JX w0 w g gj d n gen st txs u F A c vt us) : ∀ k ∈ rowOf vt, k ∈ others w F := fun k hk => x11.2 (h.sep k (by simp [txBlks, hk]))
theorem JX.under (h : JX w0 w g gj d n gen st txs u F A c vt us) : ∀ k ∈ jf gj vt F, k < w.heap.size := fun k hk => by
 unfold jf at hk
 rw [mem_cons, mem_append] at hk
 rcases hk with rfl | hk | hk
 ·exact (x11.1 h.gjO).1
 ·exact (x11.1 (h.vtO k hk)).1
 ·obtain ⟨gm, v, e, hl⟩ := h.disk
  have := h.disk.under k hk
  exact this
theorem JX.below (h : JX w0 w g gj d n gen st txs u F A c vt us) (hb : Below w.heap.size w w') : JX w0 w' g gj d n gen st txs u F A c vt us :=
  ⟨h.disk.of (x1V hb h.disk.under), h.bel.trans (hb.mono h.bel.size), fun k hk => ⟨kL (h.sep k hk).1 hb.size, (h.sep k hk).2⟩, h.jb.below hb h.jb.lt, h.own.below hb, h.tx.of (fun k hk => hb.block k (h.tx.over k hk).2), h.gjN⟩
theorem JX.append (h : JX w0 w g gj d n gen st txs u F A c vt us) (hn : n <= 4096) (hgen : gen <= 4611686018427387904) (hu : u <= logOf n) (B : OA) (cb : Nat) (tx : LN) (hst : Bytes w w.heap.size B tx.length tx) (hl : tx.length <= 20000) (hlc : tx.length <= cb) (hcm : cb <= 9223372036854775807) (hne : tx ≠ []) (hfit : pn tx + 1 <= logOf n - u)
 (hT : Tab w) (hw0 : 0 < w0.heap.size) (hB : ∀ k ∈ blkOf B, k < w.heap.size /\ k ∉ F) (hf : Far d (pn tx + 3)) (hok : (d.app n gen u tx).2 = 0) (hnt : txs.length <= 100000) :
  Calls prog 158 #[.pointer (some ⟨gj, 0, none⟩), .slice B tx.length cb] w fun e w' => e = .returned .nilIface /\ ∃ F' vt' us', JX w0 w' g gj (d.app n gen u tx).1 n gen st (txs ++ [tx]) (u + pn tx + 1) F' A c vt' us' /\ Only (jf gj vt F) w w' /\ Fresh w (jf gj vt F) (jf gj vt' F') := by
 refine (xEW (x32 h.disk h.bel) h.jb h.gjO h.gjN hn hgen hu B cb tx hst hl hlc hcm hne hfit hT hw0 (fun k hk => x11.2 (hB k hk)) hf hok txs.length us h.tx.1 hnt h.vtO).mono ?_
 rintro e w' ⟨vt', B', cc, rfl, r1, r2, r3, r4, r5, r6, r7⟩
 obtain ⟨F', x1, x2, x3, x4, x5⟩ := x52 (G := gj :: rowOf vt) (F := F) h.bel (fun k hk => by simp [hk]) r1 r6 (fun k hk hn => by
  rw [mem_cons, not_or] at hn
  exact r5 k hk hn.1 hn.2)
 have hO : ∀ k ∈ txBlks vt us ++ (blkOf A ++ [gj]), k ∈ others w F := fun k hk => x11.2 (h.sep k hk)
 have hsame : ∀ {v : Value} {m : Nat} {bs : LN}, Own w w0.heap.size v m bs -> (∀ k ∈ rowOf v, k ∈ txBlks vt us ++ (blkOf A ++ [gj])) -> Own w' w0.heap.size v m bs := fun {v m bs} hv hin =>
  x06 hv (fun k hk => r5 k (hO k (hin k hk)) (fun e => by
   subst e
   exact x12 hv h.jb (by decide) (x00.1 hk)) (fun hk' => x65 hv h.tx.1 (by decide) k hk (x00.1 hk')))
 refine ⟨rfl, F', vt', us ++ [.slice B' tx.length cc], ⟨x1, x2, fun k hk => x5 k ?_, r2, hsame h.own (fun k hk => by simp [x4Z _ _ _ hk]), ⟨by rw [kN]; exact r3, by simp [h.tx.2.1], fun i t hi => ?_⟩, h.gjN⟩, x4, fun k hk => ?_⟩
 ·simp only [txBlks, mem_append, mem_cons, flatMap_append, flatMap_cons, flatMap_nil, append_nil, not_mem_nil, or_false] at hk hO ⊢
  rcases hk with (hk | hk | hk) | hk | hk
  ·exact .inr (.inl hk)
  ·exact .inr (.inr (hO k (.inl (.inr hk))))
  ·exact .inl (x4Z _ _ _ hk)
  ·exact .inr (.inr (hO k (.inr (.inl hk))))
  ·exact .inr (.inr (hO k (.inr (.inr hk))))
 ·by_cases hlt : i < txs.length
  ·rw [List.getElem?_append_left hlt] at hi
   obtain ⟨B1, c1, e1, e2⟩ := h.tx.2.2 i t hi
   exact ⟨B1, c1, by rw [List.getElem?_append_left (by have := h.tx.2.1; omega)]; exact e1, hsame e2 (fun k hk => mem_append_left _ (mem_append_right _ (mem_flatMap.2 ⟨_, mem_of_getElem? e1, hk⟩)))⟩
  ·rw [List.getElem?_append_right (by omega)] at hi
   have h0 : i - txs.length = 0 := by
    rcases Nat.eq_zero_or_pos (i - txs.length) with h0 | h0
    ·exact h0
    ·rw [List.getElem?_eq_none (by simp; omega)] at hi; cases hi
   rw [h0] at hi
   simp at hi
   subst hi
   exact ⟨B', cc, by rw [List.getElem?_append_right (by have := h.tx.2.1; omega), h.tx.2.1, h0]; rfl, r4.weaken h.bel.size⟩
 ·unfold jf at hk ⊢
  rw [mem_cons, mem_append] at hk ⊢
  rcases hk with rfl | hk | hk
  ·exact .inl (.inl rfl)
  ·rcases r7 k hk with h | h
   ·exact .inl (.inr (.inl h))
   ·exact .inr h
  ·rcases x3 k hk with h | h
   ·exact .inl (.inr (.inr h))
   ·exact .inr h
theorem JX.checkpoint {st' : LN} (h : JX w0 w g gj d n gen st txs u F A c vt us) (hn : n <= 4096) (hgen : gen + 1 <= 4611686018427387904) (B : OA) (cb : Nat) (hst : Bytes w w.heap.size B st'.length st') (hl : st'.length <= 20000) (hlc : st'.length <= cb) (hcm : cb <= 9223372036854775807) (hfit : pn st' <= areaOf n)
 (hT : Tab w) (hw0 : 0 < w0.heap.size) (hB : ∀ k ∈ blkOf B, k < w.heap.size /\ k ∉ F) (hf : Far d (pn st' + 3)) (hok : (d.ckpt n (gen + 1) st').2 = 0) :
  Calls prog 157 #[.pointer (some ⟨gj, 0, none⟩), .slice B st'.length cb] w fun e w' => e = .returned .nilIface /\ ∃ F' A' c', JX w0 w' g gj (d.ckpt n (gen + 1) st').1 n (gen + 1) st' [] 0 F' A' c' (.slice none 0 0) [] /\ Only (jf gj vt F) w w' /\ Fresh w (jf gj vt F) (jf gj (.slice none 0 0) F') := by
 refine (xAF (x32 h.disk h.bel) h.jb h.gjO h.gjN hn hgen B cb st' hst hl hlc hcm hfit hT hw0 (fun _ k hk => x11.2 (hB k hk)) hf hok).mono ?_
 rintro e w' ⟨B', cc, rfl, r1, r2, r3, r4, r5, r6⟩
 obtain ⟨F', x1, x2, x3, x4, x5⟩ := x52 (G := gj :: rowOf vt) (F := F) h.bel (fun k hk => by simp [hk]) r1 r6 (fun k hk hn => by
  rw [mem_cons, not_or] at hn
  exact r5 k hk hn.1)
 have hgO := h.gjO
 refine ⟨rfl, F', B', cc, ⟨x1, x2, fun k hk => x5 k ?_, r3, r4.weaken h.bel.size, TxRows.nil _ _, h.gjN⟩, x4, fun k hk => ?_⟩
 ·simp only [txBlks, rowOf, Value.ownBlock, Option.toList, flatMap_nil, append_nil, nil_append, mem_append, mem_cons, not_mem_nil, or_false] at hk ⊢
  rcases hk with hk | rfl
  ·exact .inl hk
  ·exact .inr hgO
 ·unfold jf at hk ⊢
  rw [mem_cons, mem_append] at hk ⊢
  rcases hk with rfl | hk | hk
  ·exact .inl (.inl rfl)
  ·simp [rowOf, Value.ownBlock] at hk
  ·rcases x3 k hk with h | h
   ·exact .inl (.inr (.inr h))
   ·exact .inr h
theorem JX.format {st : LN} (hd : DiskAt w w0.heap.size F g d) (hb : Below w0.heap.size w0 w) (hdn : d.n = n) (hn : n <= 4096) (hn8 : 8 <= n) (B : OA) (cb : Nat) (hst : Bytes w w.heap.size B st.length st) (hl : st.length <= 20000) (hlc : st.length <= cb) (hcm : cb <= 9223372036854775807) (hfit : pn st <= areaOf n)
 (hT : Tab w) (hw0 : 0 < w0.heap.size) (hB : ∀ k ∈ blkOf B, k < w.heap.size /\ k ∉ F) (hf : Far d (pn st + 6)) (hok1 : (d.putRow 0 [Sec.zero, Sec.zero]).2 = 0) (hok2 : ((d.putRow 0 [Sec.zero, Sec.zero]).1.ckpt n 1 st).2 = 0) :
  Calls prog 53 #[.pointer (some ⟨g, 0, none⟩), .slice B st.length cb] w fun e w' => ∃ gj A' c' F', e = .returned (.tuple #[.pointer (some ⟨gj, 0, none⟩), .nilIface]) /\ JX w0 w' g gj ((d.putRow 0 [Sec.zero, Sec.zero]).1.ckpt n 1 st).1 n 1 st [] 0 F' A' c' (.slice none 0 0) [] /\ Only F w w' /\ Fresh w F F' /\ w.heap.size <= gj := by
 refine (xF7 (x32 hd hb) hdn hn hn8 B cb st hst hl hlc hcm hfit hT hw0 (fun k hk => x11.2 (hB k hk)) hf hok1 hok2).mono ?_
 rintro e w' ⟨gj, B', cc, rfl, r1, r2, r3, r4, r5, r6⟩
 obtain ⟨F', x1, x2, x3, x4, x5⟩ := x52 (G := []) (F := F) hb (fun k hk => by simp [hk]) r1 r4.1 (fun k hk _ => r4.2 k hk)
 refine ⟨gj, B', cc, F', rfl, ⟨x1, x2, fun k hk => x5 k ?_, r2, r3.weaken hb.size, TxRows.nil _ _, by have := hb.size; omega⟩, by simpa using x4, x3, r5⟩
 simp only [txBlks, rowOf, Value.ownBlock, Option.toList, flatMap_nil, append_nil, nil_append, mem_append, mem_cons, not_mem_nil, or_false] at hk ⊢
 rcases hk with hk | rfl
 ·exact .inl hk
 ·exact .inr (.inl rfl)
end
end
section
open Go.RowKit Go.BigFrame Go.Shelf
section
variable {P : Program} {ops : Array Oper} {rest : List Oper} {o : Oper} {a : Act} {w : World} {Q : Exit -> Act -> World -> Prop}
theorem x54 (hgd : o.guard = none) (ty : TypeId) (x y : Operand) (ho : o.op = .store ty x y)
 (g i : Nat) (t : TypeId) (cs : Array Value) (v : Value) (hx : a.eval x = .pointer (some ⟨g, i, none⟩)) (hy : a.eval y = v) (hB : Blk w g t cs) (hs : i < cs.size) (hi : (P.info? ty).map (·.size) = some 1) (h1 : v.oneCell' = true)
 (h : ∀ w', Blk w' g t (cs.setIfInBounds i v) -> Only [g] w w' -> w'.heap.size = w.heap.size -> wpList P ops Q rest (a.put o.dst undef) w') : wpList P ops Q (o :: rest) a w :=
 wpList_plain hgd fun _ hK => x2N ty x y ho g i t cs v hx hy hB hs hi h1 (hK _ _ (h _ (hB.set_ i v) ((kU _ _).setCell (.inl (by simp)) _) (by simp [World.setCell])))
theorem x6I (hgd : o.guard = none) (ty : TypeId) (x y : Operand) (ho : o.op = .store ty x y)
 (g : Nat) (t : TypeId) (u0 u1 u2 x0 x1 x2 x3 x4 x5 : Value) (hx : a.eval x = .pointer (some ⟨g, 0, none⟩)) (hy : a.eval y = .agg #[u0, u1, u2]) (hB : Blk w g t #[x0, x1, x2, x3, x4, x5]) (hi : (P.info? ty).map (·.size) = some 3) (h1 : u0.oneCell' = true) (h2 : u1.oneCell' = true) (h3 : u2.oneCell' = true)
 (h : ∀ w', Blk w' g t #[u0, u1, u2, x3, x4, x5] -> Only [g] w w' -> w'.heap.size = w.heap.size -> wpList P ops Q rest (a.put o.dst undef) w') : wpList P ops Q (o :: rest) a w :=
 wpList_store_mid hgd ty x y ho g 0 #[u0, u1, u2] hx hy (hB.there (by simp)) (by simpa using hi) (by simp [h1, h2, h3])
  (h _ (by simpa [World.setCells] using ((hB.set_ 0 u0).set_ 1 u1).set_ 2 u2) ((kU _ _).grown (x0F g _ 0 w).1 (fun k e => .inl (by injection e with e; simp [e]))) (x0F g _ 0 w).2)
end
theorem xH0 (A : OA) (n c : Nat) (bs : LN) (w : World) (B : Nat) (hn : n <= 10000000) (hb : Bytes w B A n bs) :
    Calls prog 161 #[.slice A n c] w fun e w' => ∃ A2 c2, e = .returned (.slice A2 n c2) /\ Own w' w.heap.size (.slice A2 n c2) n bs /\ Below w.heap.size w w' := by
  have hnil := xC0 A n c
  rcases A with _ | ad
  · have hn0 : n = 0 := by
      rcases Nat.eq_zero_or_pos n with h | h
      · exact h
      · obtain ⟨_, h, _⟩ := hb.1.2 h; cases h
    subst hn0
    obtain rfl : bs = [] := eq_nil_of_length_eq_zero hb.len
    simp only [Option.isNone_none] at hnil
    go_enter func161, ntmps161
    go_wp2
    go_ret
    exact ⟨_, _, rfl, Own.nil _ _, kB _ _⟩
  · simp only [Option.isNone_some] at hnil
    have hb1 := hb.since (x0D w (.cells #[] 5))
    go_enter func161, ntmps161
    go_wp2_with (refine x2X (.tmp 5) (.tmp 6) rfl rfl w.heap.size (.slice (some ⟨w.heap.size, 0, none⟩) 0 0) 0 [] rfl (Own.new w w.heap.size (kR _)) B (some ad) n c bs rfl hb1 (by omega) (by simp) ?_
                 intro v2 w2 h2 g2 a2)
    go_ret
    have hb2 := xBU (x0D w _) (Own.new w w.heap.size (kR _)) (kR _) g2 (by simp)
    rw [Nat.zero_add, nil_append] at h2
    obtain ⟨A2, c2, rfl, -⟩ := h2.form
    exact ⟨A2, c2, rfl, h2, hb2⟩
theorem xH2 {es : List (Int × Int)} (hl : es.length <= 1000000) (hR : ExtR w B A es) (hB : B <= w.heap.size) :
    Calls prog 163 #[.slice A es.length c] w fun e w' => ∃ A2 c2, e = .returned (.slice A2 es.length c2) /\ OwnE w' w.heap.size (.slice A2 es.length c2) es /\ Below w.heap.size w w' := by
  have qT : ∀ (w : World) (a : OA) (n c n' c' : Nat), (binOp .eql 135 (.slice a n c) (.slice none n' c')).run prog w = .ok (.bool a.isNone) w := fun w a n c n' c' => Lib.run_eql_slice_nil w _ _ a n c n' c' underlying135
  rcases A with _ | ad
  · have h0 : es = [] := by
      rcases Nat.eq_zero_or_pos es.length with h | h
      · exact eq_nil_of_length_eq_zero h
      · obtain ⟨ad, e, _⟩ := hR.2 h
        cases e
    subst h0
    go_enter func163, ntmps163
    go_wp2
    go_ret
    exact ⟨_, _, rfl, OwnE.nil w _, kB _ _⟩
  · have HR := kH hR
    have hbs : ∀ w : World, (Instr.buildSlice 135 0 #[]).run prog w = .ok (.slice (some ⟨w.heap.size, 0, none⟩) 0 0) (w.alloc (.cells #[] 198)) := fun w => by kernel_rfl
    have hown : (w.alloc (.cells #[] 198)).ownsRow w.heap.size 198 2 (.slice (some ⟨w.heap.size, 0, none⟩) 0 0) 0 [] := by
      have := World.ownsRow_made (base := w.heap.size) (e := 198) (size := 2) w #[] 0 (kR _) (by simp [maxLen]) (by simp)
      simpa using this
    have HO := kH hown
    have HB := kH (Below.alloc (kB w.heap.size w) (kR _) (.cells #[] 198))
    obtain ⟨i0, hi0, hz0, hz1, hz2⟩ := info_parts x3G
    clear hR hown
    go_enter func163, ntmps163
    go_wp2_with (refine x0Z _ rfl (.tmp 5) (.tmp 6) _ rfl w.heap.size 198 i0 _ 2 16 underlying135 hi0 hz0 hz1 hz2 rfl (by omega) (.slice (some ⟨w.heap.size, 0, none⟩) 0 0) 0 [] rfl HO.out B (some ad) es.length c (extS es) rfl (HR.out.alloc hB _) (x46 _) (by simp [maxLen]; omega) (by omega) (by simp) ?_; intro v2 w2 h2 g2 a2)
    have hb2 : Below w.heap.size w w2 := HB.out.grown g2 (by simp) (fun j hj => by simp [Value.ownBlock] at hj; omega)
    have H2 := kH (kA h2 hb2)
    clear h2 hb2 g2 a2
    go_wp2
    go_ret
    have h3 := H2.out.1
    simp only [Nat.zero_add, nil_append] at h3
    obtain ⟨A2, c2, rfl, -⟩ := OwnE.form (show OwnE w2 w.heap.size v2 es from h3)
    exact ⟨A2, c2, rfl, h3, H2.out.2⟩
theorem SMap.cloned {kt : TypeId} (h : SMap P kt w b l) : ∃ es clock, w.heap[b]? = some (.map es clock) /\ SMap P kt (w.alloc (.map es clock)) w.heap.size l := by
 obtain ⟨es, c, h1, h2, h3⟩ := h
 exact ⟨es, c, h1, ⟨es, c, heap_alloc_new w _, h2, h3⟩⟩
theorem xER (h : SMap prog 9 w b l) :
  Calls prog 162 #[.map (some b)] w fun e w' => e = .returned (.map (some w.heap.size)) /\ SMap prog 9 w' w.heap.size l /\ Below w.heap.size w w' := by
 obtain ⟨es, clock, h1, h2⟩ := h.cloned
 have hq := fun w => run_eql_map_nil_sl (P := prog) w 134 _ _ (some b) underlying134
 have H1 := kH h1
 have H2 := kH h2
 clear h1 h2 h
 go_enter func162, ntmps162
 go_wp2
 rw [run_callFunc_extern func150 (by kernel_rfl) (by kernel_rfl) (by kernel_rfl) (e := Extern.MapsClone.clone) (by kernel_rfl), run_maps_clone_sl w 134 H1.out]
 simp only [Result.andThen]
 rw [Oper.upon_value]
 go_wp2
 rw [run_typeAssert_map_sl _ 134 20 _ _ _ underlying134]
 simp only [Result.andThen]
 rw [Oper.upon_value]
 go_wp2
 go_ret
 exact ⟨rfl, H2.out, (kB _ _).alloc (kR _) _⟩
theorem xFM (h : SMap prog 9 w b l) :
  Calls prog 98 #[.map (some b)] w fun e w' => e = .returned (.map (some w.heap.size)) /\ SMap prog 9 w' w.heap.size l /\ Below w.heap.size w w' := by
 obtain ⟨es, clock, h1, h2⟩ := h.cloned
 have hq := fun w => run_eql_map_nil_sl (P := prog) w 118 _ _ (some b) underlying118
 have H1 := kH h1
 have H2 := kH h2
 clear h1 h2 h
 go_enter func98, ntmps98
 go_wp2
 rw [run_callFunc_extern func150 (by kernel_rfl) (by kernel_rfl) (by kernel_rfl) (e := Extern.MapsClone.clone) (by kernel_rfl), run_maps_clone_sl w 118 H1.out]
 simp only [Result.andThen]
 rw [Oper.upon_value]
 go_wp2
 rw [run_typeAssert_map_sl _ 118 20 _ _ _ underlying118]
 simp only [Result.andThen]
 rw [Oper.upon_value]
 go_wp2
 go_ret
 exact ⟨rfl, H2.out, (kB _ _).alloc (kR _) _⟩
end
def LikeTo (w : World) (o : Ob) (kv : KV) (e : Ending) (w' : World) : Prop := ∃ D c mb E ce, e = .returned (.agg (objC D o.d.length c (.map (some mb)) E o.e.length ce)) /\ Own w' w.heap.size (.slice D o.d.length c) o.d.length o.d /\ SMap prog 9 w' mb kv /\ w.heap.size <= mb /\ OwnE w' w.heap.size (.slice E o.e.length ce) (natE o.e) /\ Rel2 (AttrR w' (rowOf (.slice D o.d.length c))) kv o.a /\ Below w.heap.size w w'
theorem ObAt.bytes {go : Nat} {o : Ob} (h : ObAt w go mb c ce D E kv o) : Bytes w w.heap.size D o.d.length o.d := h.dat.bytes h.ok
theorem x0T (l : List (Nat × Nat)) : (natE l).length = l.length := by simp [natE]
theorem xM6 {go : Nat} {o : Ob} (h : ObAt w go mb c ce D E kv o) (hd : o.d.length <= 1000000) (he : o.e.length <= 1000000) :
  Calls prog 113 #[.pointer (some ⟨go, 0, none⟩)] w (LikeTo w o kv) := by
 have HH := kH h
 have HC : Hid (∀ w', Blk w' go 137 (objC D o.d.length c (.map (some mb)) E o.e.length ce) -> w'.cell? ⟨go, 0, none⟩ = some (.slice D o.d.length c) /\ w'.cell? ⟨go, 1, none⟩ = some (.map (some mb)) /\ w'.cell? ⟨go, 2, none⟩ = some (.slice E o.e.length ce)) := kH fun w' h => ⟨h.cell 0, h.cell 1, h.cell 2⟩
 obtain ⟨Zs, hZ, hZs⟩ : ∃ Zs : Array Value, (∀ w, (zeroValue 137).run prog w = .ok (.agg Zs) w) /\ Zs.size = 3 := ⟨#[.slice none 0 0, .map none, .slice none 0 0], fun w => by kernel_rfl, rfl⟩
 clear h
 go_enter func113, ntmps113
 go_upto_region 1 with (fail)
 obtain ⟨w0, hw0⟩ := kX (w.alloc (.cells Zs 137))
 have hbel : Below w.heap.size w w0 := by rw [hw0]; exact (kB _ _).alloc (kR _) _
 have K0 : Blk w0 w.heap.size 137 Zs := by rw [hw0]; exact kW w _ _
 have hO0 : ObAt w0 go mb c ce D E kv o := HH.out.below hbel
 rw [<- hw0]
 have hS : Blk w0.drew go 137 (objC D o.d.length c (.map (some mb)) E o.e.length ce) := hO0.blk.drew
 refine x09 (fun w' => Blk w' go 137 (objC D o.d.length c (.map (some mb)) E o.e.length ce)) 16 (by kernel_rfl) ?_
 refine tU 0 (.pointer (some ⟨go, 0, none⟩)) rfl (fun w hw => by kernel_rfl) hS ?_
 refine tU 1 (.pointer (some ⟨go, 0, none⟩)) rfl (fun w hw => by kernel_rfl) hS ?_
 refine tU 2 (.pointer (some ⟨go, 0, none⟩)) rfl (fun w hw => by go_simp) hS ?_
 refine tU 3 (.slice D o.d.length c) rfl (fun w hw => by have q := (HC.out w hw).1; go_simp) hS ?_
 refine tU 5 (.pointer (some ⟨go, 0, none⟩)) rfl (fun w hw => by kernel_rfl) hS ?_
 refine tU 6 (.pointer (some ⟨go, 0, none⟩)) rfl (fun w hw => by kernel_rfl) hS ?_
 refine tU 7 (.pointer (some ⟨go, 1, none⟩)) rfl (fun w hw => by go_simp) hS ?_
 refine tU 8 (.map (some mb)) rfl (fun w hw => by have q := (HC.out w hw).2.1; go_simp) hS ?_
 refine tU 10 (.pointer (some ⟨go, 0, none⟩)) rfl (fun w hw => by kernel_rfl) hS ?_
 refine tU 11 (.pointer (some ⟨go, 0, none⟩)) rfl (fun w hw => by kernel_rfl) hS ?_
 refine tU 12 (.pointer (some ⟨go, 2, none⟩)) rfl (fun w hw => by go_simp) hS ?_
 refine tU 13 (.slice E o.e.length ce) rfl (fun w hw => by have q := (HC.out w hw).2.2; go_simp) hS ?_
 refine tO 4 ?_
 refine x03 (by kernel_rfl) (xH0 D o.d.length c o.d w0.drew w0.heap.size (by omega) (hO0.bytes.drew)) ?_
 rintro e w1 ⟨D2, c2, rfl, ho2, hb2⟩
 have hO1 : ObAt w1 go mb c ce D E kv o := (hO0.below (w' := w0.drew) (x08 (kB _ _) 1)).below hb2
 refine ⟨_, rfl, hO1.blk, ?_⟩
 simp only [nH, pu, nB, nC, nD]
 refine tO 9 ?_
 refine x03 (by kernel_rfl) (xER hO1.map) ?_
 rintro e w2 ⟨rfl, hm2, hb3⟩
 have hO2 : ObAt w2 go mb c ce D E kv o := hO1.below hb3
 refine ⟨_, rfl, hO2.blk, ?_⟩
 simp only [nH, pu, nB, nC, nD]
 refine tO 14 ?_
 have hcl := xH2 (c := ce) (es := natE o.e) (by rw [x0T]; exact he) (OwnE.ext (by rw [x0T]; exact hO2.ext)) (kR _)
 rw [x0T] at hcl
 refine x03 (by kernel_rfl) hcl ?_
 rintro e w3 ⟨E2, ce2, rfl, he2, hb4⟩
 have hO3 : ObAt w3 go mb c ce D E kv o := hO2.below hb4
 refine ⟨_, rfl, hO3.blk, ?_⟩
 simp only [nH, pu, nB, nC, nD]
 refine tO 15 ?_
 refine x0A (v := .agg (objC D2 o.d.length c2 (.map (some w1.heap.size)) E2 o.e.length ce2)) (w' := w3) (by kernel_rfl) ⟨hO3.blk, ?_⟩
 simp only [nH, pu, nB, nC, nD]
 refine tZ ?_
 have hz1 := hb2.size
 have hz2 := hb3.size
 have hz3 := hb4.size
 have hz0 := hbel.size
 have hk0 := K0.lt
 have e0 : w0.drew.heap.size = w0.heap.size := rfl
 have K3 : Blk w3 w.heap.size 137 Zs := ((K0.drew.of (hb2.block _ (by omega))).of (hb3.block _ (by omega))).of (hb4.block _ (by omega))
 refine wp_store_mid 137 _ _ (by rfl) w.heap.size 0 (objC D2 o.d.length c2 (.map (some w1.heap.size)) E2 o.e.length ce2) (by rfl) (by rfl) (K3.there (by simp [objC, hZs])) (by kernel_rfl) (by simp [objC, Value.oneCell']) ?_
 refine NoPanic.normal ?_
 have hov := K3.over (objC D2 o.d.length c2 (.map (some w1.heap.size)) E2 o.e.length ce2).toList (by simp [objC, hZs])
 obtain ⟨w4, hw4⟩ := kX (w3.setCells w.heap.size 0 (objC D2 o.d.length c2 (.map (some w1.heap.size)) E2 o.e.length ce2).toList)
 have hon : Only [w.heap.size] w3 w4 := by rw [hw4]; exact (kU _ _).grown (x0F _ _ 0 w3).1 (fun k e => .inl (by injection e with e; simp [e]))
 have K4 : Blk w4 w.heap.size 137 (objC D2 o.d.length c2 (.map (some w1.heap.size)) E2 o.e.length ce2) := by rw [hw4]; exact hov
 rw [<- hw4]
 have hb1 : Below w.heap.size w w1 := x0L (w := w) (show Below w.heap.size w.drew w1 from (show Below w.heap.size w.drew w0.drew from ⟨hbel.os, hbel.tape, hbel.output, hbel.size, hbel.block⟩).trans (hb2.mono (by omega)))
 have hfin : LikeTo w o kv (.returned (.agg (objC D2 o.d.length c2 (.map (some w1.heap.size)) E2 o.e.length ce2))) w4 := by
  have ho3 : Own w3 w0.heap.size (.slice D2 o.d.length c2) o.d.length o.d := (ho2.below hb3).below hb4
  have hGb : ∀ (e : TypeId), e ≠ 137 -> ∀ k ∈ [w.heap.size], Odd w3 e k := fun e h1 k hk => by
   simp at hk; subst hk; exact Odd.blk K3 h1.symm
  refine ⟨D2, c2, w1.heap.size, E2, ce2, rfl, x0B (x0N ho3 hon (hGb _ (by decide))) (by omega), ?_, by omega, x0B (x0N he2 hon (hGb _ (by decide))) (by omega), ?_, ?_⟩
  ·have hm3 := hm2.of (hb4.block _ hm2.lt)
   exact hm3.of (hon.block _ hm3.lt (by simp; omega))
  ·refine hO0.att.imp fun a b hr => ⟨hr.1, ?_⟩
   have h1 : RowR w0.drew 0 [] a.2 b.2 := hr.2
   have h2 := h1.far (F' := rowOf (.slice D2 o.d.length c2)) (fun k hk => .inr (x0G ho2 k hk))
   exact (((h2.below hb2).below hb3).below hb4).only hon (fun k hk => .inr (hGb _ (by decide) k hk))
  ·have h3 : Below w.heap.size w w3 := (hb1.trans (hb3.mono (by omega))).trans (hb4.mono (by omega))
   exact h3.trans (hon.below (fun k hk => by simp at hk; omega) (by omega))
 have HFIN := kH hfin
 clear hfin hO0 hO1 hO2 hO3 hm2 hb1 hb2 hb3 hb4 he2 hcl hon hov K0 K3 hS hbel ho2
 go_wp2
 refine bodyPost_ret (results_cell_row rfl _ _ w.heap.size 137 (objC D2 o.d.length c2 (.map (some w1.heap.size)) E2 o.e.length ce2) (0, 0) _ rfl K4 underlying137 rfl (by kernel_rfl)) rfl ?_
 exact HFIN.out
def ObR (w : World) (Z : LN) (v : Value) (o : Ob) : Prop := ∃ go mb c ce D E kv, v = .pointer (some ⟨go, 0, none⟩) /\ mb ∉ Z /\ ObAt w go mb c ce D E kv o
def ObjR (w : World) (Z : LN) (p : Key × Value) (q : Key × Ob) : Prop := p.1 = q.1 /\ ObR w Z p.2 q.2
theorem ObjR.key (p : Key × Value) (q : Key × Ob) (h : ObjR w Z p q) : p.1 = q.1 := h.1
structure StoreAt (w : World) (Z : LN) (gs ms gp r c : Nat) (A : OA) (M : Mod) (kv : KV) : Prop where
 st : StAt w gs ms gp r c A M.bl M.fl kv
 obs : Rel2 (ObjR w Z) kv M.ob
theorem StAt.below {bl fl : List Bool} (h : StAt w gs ms gp r c A bl fl kv) (hb : Below w.heap.size w w') : StAt w' gs ms gp r c A bl fl kv :=
  ⟨h.blk.of (hb.block _ h.blk.lt), h.len, h.map.of (hb.block _ h.map.lt), h.sp.of (hb.block _ h.sp.blk.lt) (fun _ _ hx => hb.block _ hx.lt), h.ne⟩
theorem ObR.below {v : Value} {o : Ob} (h : ObR w Z v o) (hb : Below w.heap.size w w') : ObR w' Z v o := by
 obtain ⟨go, mb, c, ce, D, E, kv, rfl, h1, h2⟩ := h
 exact ⟨go, mb, c, ce, D, E, kv, rfl, h1, h2.below hb⟩
theorem StoreAt.below {M : Mod} (h : StoreAt w Z gs ms gp r c A M kv) (hb : Below w.heap.size w w') : StoreAt w' Z gs ms gp r c A M kv :=
  ⟨h.st.below hb, h.obs.imp fun a b hr => ⟨hr.1, hr.2.below hb⟩⟩
def BeginTo (w : World) (gs : Nat) (W : Wk) (e : Ending) (w' : World) : Prop := ∃ gw, e = .returned (.pointer (some ⟨gw, 0, none⟩)) /\ Wkd w' w.heap.size gw gs W /\ Below w.heap.size w w'
def Fits (o : Ob) : Prop := o.d.length <= 65536 /\ o.e.length <= 65536
theorem xK0 {M : Mod} (h : StoreAt w Z gs ms gp r c A M kv) (bs : LN) (hl : bs.length <= 1000000) (hf : ∀ p ∈ M.ob, Fits p.2) :
  Calls prog 64 #[.pointer (some ⟨gs, 0, none⟩), .string (strOf bs)] w (BeginTo w gs (startW M (keyB bs))) := by
 have hbd : ∀ w, (Instr.build 139 #[(3, .pointer (some ⟨gs, 0, none⟩))]).run prog w = .ok (.agg (workC none 0 0 (.map none) none 0 0 false none 0 0 gs)) w := fun w => by kernel_rfl
 have hbel : Below w.heap.size w (w.alloc (.cells (workC none 0 0 (.map none) none 0 0 false none 0 0 gs) 139)) := (kB _ _).alloc (kR _) _
 have K0 := kW w 139 (workC none 0 0 (.map none) none 0 0 false none 0 0 gs)
 have h1 := h.below hbel
 obtain ⟨w1, hw1⟩ := kX (w.alloc (.cells (workC none 0 0 (.map none) none 0 0 false none 0 0 gs) 139))
 rw [<- hw1] at hbel K0 h1
 have hw1' : w1 = w.alloc (.cells #[.slice none 0 0, .map none, .slice none 0 0, .bool false, .slice none 0 0, .pointer (some ⟨gs, 0, none⟩)] 139) := hw1
 clear hw1
 have HW1 := kH hw1'
 clear hw1'
 have HO := kH (xAH h1.st bs hl)
 have HB := kH hbel
 have HK := kH K0
 have hW0 : ∀ W : Wk, W = ⟨false, [], [], [], []⟩ -> Wkd w1 w.heap.size w.heap.size gs W := by
  rintro W rfl
  exact ⟨0, 0, 0, none, none, none, .map none, [], [], ⟨K0, kR _, Own.nil _ _, (fun b hb => by cases hb), .inl ⟨rfl, rfl, rfl⟩, .nil, OwnE.nil _ _, World.ownsRow_nil _ _ _ _, .nil⟩⟩
 have HW0 := kH hW0
 have hcase := h1.obs.get ObjR.key (keyB bs)
 have HH1 := kH h1
 clear h h1 hbel K0 hW0
 rcases hcase with ⟨hn1, hn2⟩ | ⟨v, o, hs1, hs2, -, hob⟩
 ·rw [hn1, Option.getD_none] at HO
  go_enter func64, ntmps64
  go_wp2_with fail
  rw [<- HW1.out]
  refine HO.out.mono ?_
  rintro e w' ⟨rfl, rfl⟩
  go_wp2
  go_ret
  refine ⟨_, rfl, HW0.out _ ?_, HB.out⟩
  unfold startW
  rw [hn2]
 ·rw [hs1, Option.getD_some] at HO
  obtain ⟨go, mb, c1, ce, D, E, kv1, rfl, hmb, hat⟩ := hob
  have hfo := hf _ (x1S hs2)
  have HL := kH (xM6 hat (kT hfo.1 (by decide)) (kT hfo.2 (by decide)))
  have HOB := kH hat
  clear hat hf
  go_enter func64, ntmps64
  go_wp2_with fail
  rw [<- HW1.out]
  refine HO.out.mono ?_
  rintro e w' ⟨rfl, rfl⟩
  go_wp2_with fail
  refine HL.out.mono ?_
  rintro e w2 ⟨D2, c2, mb2, E2, ce2, rfl, x1, x2, x3, x4, x5, x6⟩
  have K2 : Blk w2 w.heap.size 139 (workC none 0 0 (.map none) none 0 0 false none 0 0 gs) := HK.out.of (x6.block _ HK.out.lt)
  have HX := kH (kA x1 (kA x2 (kA x3 (kA x4 (kA x5 x6)))))
  clear x1 x2 x3 x4 x5 x6
  go_wp2_with (first
   | (refine x6I rfl 137 _ _ rfl w.heap.size 139 _ _ _ _ _ _ _ _ _ rfl rfl K2 (by kernel_rfl) rfl rfl rfl ?_; intro w3 K3 o3 s3)
   | (refine x54 rfl 4 _ _ rfl w.heap.size 3 139 _ (.bool true) rfl rfl K3 (by simp) (by kernel_rfl) rfl ?_; intro w4 K4 o4 s4))
  go_ret
  obtain ⟨x1, x2, x3, x4, x5, x6⟩ := HX.out
  have hz1 := HB.out.size
  have hz2 := x6.size
  have hkl := HK.out.lt
  have ho : Only [w.heap.size] w2 w4 := o3.trans o4 (fun k hk => .inl hk)
  have hG : ∀ (e : TypeId), e ≠ 139 -> ∀ k ∈ [w.heap.size], Odd w2 e k := fun e h1 k hk => by
   simp at hk; subst hk; exact Odd.blk K2 h1.symm
  refine ⟨_, rfl, ?_, (HB.out.trans (x6.mono (by omega))).trans (ho.below (fun k hk => by simp at hk; omega) (by omega))⟩
  unfold startW
  rw [hs2]
  exact ⟨c2, ce2, 0, D2, E2, none, .map (some mb2), kv1, [], ⟨K4, kR _, x0B (x0N x1 ho (hG _ (by decide))) (by omega), HOB.out.ok, .inr ⟨mb2, rfl, by omega, x2.of (ho.block _ x2.lt (by simp; omega))⟩, x5.imp fun a b hr => ⟨hr.1, hr.2.only ho fun k hk => .inr (hG _ (by decide) k hk)⟩, x0B (x0N x4 ho (hG _ (by decide))) (by omega), World.ownsRow_nil _ _ _ _, .nil⟩⟩
theorem xJ3 : (prog.info? 35).map (fun i => (i.zero, i.size, i.bytes)) = some (some (.slice none 0 0), 1, 24) := by kernel_rfl
theorem xI3 (A : OA) (n c : Nat) (w : World) : (Instr.buildSlice 42 1 #[(0, .slice A n c)]).run prog w = .ok (.slice (some ⟨w.heap.size, 0, none⟩) 1 1) (w.alloc (.cells #[.slice A n c] 35)) :=
  x1D (size := 1) underlying42 (by kernel_rfl) (by omega) (by omega) rfl w
def StepTo (w : World) (B gw gs : Nat) (W : Wk) (v : Value) (e : Ending) (w' : World) : Prop := e = .returned v /\ Wkd w' B gw gs W /\ Below B w w'
theorem xDE {W : Wk} (h : WkAt w B gw gs c ce ct D E T av kv tv W) (hB : B <= w.heap.size) (ht : W.told.length <= 1000000)
 {nx : Nat} {Ax : OA} (hx : Bytes w Bx Ax bs.length bs) (hn : bs.length <= 1000000) :
  Calls prog 171 #[.pointer (some ⟨gw, 0, none⟩), .slice Ax bs.length cx] w (fun e w' => StepTo w B gw gs {W with told := W.told ++ [bs]} (.tuple #[]) e w' /\ ∀ k cs, Blk w k 52 cs -> w'.heap[k]? = w.heap[k]?) := by
 have HH := kH h
 have HX := kH hx
 have HC : Hid (∀ w', Blk w' gw 139 (workC D W.d.length c av E W.e.length ce W.th T W.told.length ct gs) -> w'.cell? ⟨gw, 4, none⟩ = some (.slice T W.told.length ct)) := kH fun w' h => h.cell 4
 have hS : Blk w.drew gw 139 (workC D W.d.length c av E W.e.length ce W.th T W.told.length ct gs) := h.blk.drew
 obtain ⟨i0, hi0, hz0, hz1, hz2⟩ := info_parts xJ3
 clear h hx
 go_enter func171, ntmps171
 go_upto_region 0 with (fail)
 refine x09 (fun w' => Blk w' gw 139 (workC D W.d.length c av E W.e.length ce W.th T W.told.length ct gs)) 11 (by kernel_rfl) ?_
 refine tU 0 (.pointer (some ⟨gw, 0, none⟩)) rfl (fun w hw => by kernel_rfl) hS ?_
 refine tU 1 (.pointer (some ⟨gw, 0, none⟩)) rfl (fun w hw => by kernel_rfl) hS ?_
 refine tU 2 (.pointer (some ⟨gw, 0, none⟩)) rfl (fun w hw => by kernel_rfl) hS ?_
 refine tU 3 (.pointer (some ⟨gw, 4, none⟩)) rfl (fun w hw => by go_simp) hS ?_
 refine tU 4 (.slice T W.told.length ct) rfl (fun w hw => by have q := HC.out w hw; go_simp) hS ?_
 refine tU 5 (.slice Ax bs.length cx) rfl (fun w hw => by kernel_rfl) hS ?_
 refine tO 6 ?_
 refine x03 (by kernel_rfl) (x0Q Ax bs.length cx bs w.drew Bx (by omega) HX.out.drew) ?_
 rintro e w1 ⟨v, rfl, hv, hb1⟩
 have hb1' : Below w.heap.size w w1 := x0L hb1
 have h1 := HH.out.below hb1'
 refine ⟨_, rfl, h1.blk, ?_⟩
 simp only [nH, pu, nB, nC, nD]
 obtain ⟨A1, c1, rfl, -⟩ := hv.form
 have hbt := xI3 A1 bs.length c1
 refine tO 7 ?_
 refine x0A (v := .slice (some ⟨w1.heap.size, 0, none⟩) 1 1) (w' := w1.alloc (.cells #[.slice A1 bs.length c1] 35)) (by go_simp) ⟨h1.blk.alloc _, ?_⟩
 simp only [nH, pu, nB, nC, nD]
 have hb2 : Below w1.heap.size w1 (w1.alloc (.cells #[.slice A1 bs.length c1] 35)) := (kB _ _).alloc (kR _) _
 have h2 := h1.below hb2
 refine tO 8 ?_
 have hz1' := hb1'.size
 have hz2' := hb2.size
 refine x1A _ (.tmp 8) (.tmp 11) 42 rfl B 35 i0 _ 1 24 underlying42 hi0 hz0 hz1 hz2 rfl (by omega) (.slice T W.told.length ct) W.told.length tv rfl h2.tol _ (some ⟨w1.heap.size, 0, none⟩) 1 1 [.slice A1 bs.length c1] rfl (Reads.new w1 [.slice A1 bs.length c1] 35 (0, 0)) (by intro u hu; simp at hu; subst hu; rfl) (by simp only [maxLen]; omega) (by omega) (by omega) ?_
 intro v' w3 hown hgr hor
 have hg2 : gw ≠ 0 ∨ True := .inr trivial
 have hTg : some gw ≠ (Value.slice T W.told.length ct).ownBlock := fun e => by
  obtain ⟨cs, hb⟩ := x0J h2.tol e.symm
  exact h2.blk.ne_ hb (by decide) rfl
 have K3 := h2.blk.grown hgr hTg
 refine ⟨K3, ?_⟩
 simp only [nH, pu, nB, nC, nD]
 refine tO 9 ?_
 refine x0A (v := .pointer (some ⟨gw, 0, none⟩)) (w' := w3) (by go_simp) ⟨K3, ?_⟩
 simp only [nH, pu, nB, nC, nD]
 refine tO 10 ?_
 refine x0A (v := .pointer (some ⟨gw, 4, none⟩)) (w' := w3) (by kernel_rfl) ⟨K3, ?_⟩
 simp only [nH, pu, nB, nC, nD]
 obtain ⟨T2, ct2, rfl⟩ : ∃ T2 ct2, v' = .slice T2 (W.told.length + 1) ct2 := by
  rcases hown.2 with ⟨_, h0⟩ | ⟨g', cap', cur, e, _⟩
  ·omega
  ·exact ⟨_, _, e⟩
 refine tZ ?_
 refine x2N 42 (.tmp 14) (.tmp 12) (by rfl) gw 4 139 _ (.slice T2 (W.told.length + 1) ct2) (by rfl) (by rfl) K3 (by simp [workC]) (by kernel_rfl) rfl ?_
 refine NoPanic.normal ?_
 have hon1 : Only (gw :: rowOf (.slice T W.told.length ct)) w w3 := (((kO hb1' _).trans (kO hb2 []) (fun k hk => by cases hk))).grown hgr (fun g hg => .inl (by simp [x00, hg]))
 obtain ⟨w4, hw4⟩ := kX (w3.setCell ⟨gw, 4, none⟩ (.slice T2 (W.told.length + 1) ct2))
 have hon4 : Only [gw] w3 w4 := by rw [hw4]; exact (kU _ _).setCell (.inl (by simp)) _
 have hon : Only (gw :: rowOf (.slice T W.told.length ct)) w w4 := by rw [hw4]; exact hon1.setCell (.inl (by simp)) _
 have K4 : Blk w4 gw 139 ((workC D W.d.length c av E W.e.length ce W.th T W.told.length ct gs).setIfInBounds 4 (.slice T2 (W.told.length + 1) ct2)) := by rw [hw4]; exact K3.set_ 4 _
 rw [<- hw4]
 have hod : ∀ (e : TypeId), e ≠ 139 -> ∀ k ∈ [gw], Odd w3 e k := fun e hq k hk => by simp at hk; subst hk; exact Odd.blk K3 hq.symm
 have hrow : RowR w4 B (rowOf (.slice D W.d.length c)) (.slice A1 bs.length c1) bs := by
  have r1 : RowR w1 B (rowOf (.slice D W.d.length c)) (.slice A1 bs.length c1) bs := ⟨A1, c1, rfl, hv.weaken hB, HX.out.2, fun k hk hm => by
   have a1 := x0G hv k hk
   have a2 := x02 HH.out.dat k hm
   have a3 : w.drew.heap.size = w.heap.size := rfl
   omega⟩
  have r3 : RowR w3 B (rowOf (.slice D W.d.length c)) (.slice A1 bs.length c1) bs := (r1.below hb2).only (G := rowOf (.slice T W.told.length ct)) ((kU _ _).grown hgr (fun g hg => .inl (by simp [x00, hg]))) (fun k hk => .inr (by
   obtain ⟨cs, hb⟩ := x0J h2.tol (x00.1 hk)
   exact Odd.blk hb (by decide)))
  exact r3.only hon4 (fun k hk => .inr (hod _ (by decide) k hk))
 have hfin : StepTo w B gw gs {W with told := W.told ++ [bs]} (.tuple #[]) (.returned (.tuple #[])) w4 := by
  refine ⟨rfl, HH.out.tells K4 hon (x0N hown hon4 (hod _ (by decide))) hrow, hon.below (fun k hk => ?_) hB⟩
  rcases kQ hk with rfl | hk
  ·exact HH.out.gB
  ·exact x0G HH.out.tol k hk
 have hkeep : ∀ k cs, Blk w k 52 cs -> w4.heap[k]? = w.heap[k]? := fun k cs hk => hon.block k hk.lt fun hm => by
  rcases kQ hm with e | hm
  ·subst e; exact hk.ne_ HH.out.blk (by decide) rfl
  ·obtain ⟨cs', hb'⟩ := x0J HH.out.tol (x00.1 hm)
   exact hk.ne_ hb' (by decide) rfl
 have HFIN := kH (kA hfin hkeep)
 clear hfin hkeep hrow hod K4 hon hon4 hon1 K3 hTg h2 h1 hown hb2 hb1 hb1' hv hS hw4
 go_wp2
 refine kZ (results_none rfl _ _ _) rfl ?_
 exact HFIN.out
theorem xA7 {W : Wk} (h : WkAt w B gw gs c ce ct D E T av kv tv W) (hB : B <= w.heap.size) (b : Bool) :
  Calls prog 115 #[.pointer (some ⟨gw, 0, none⟩), .bool b] w (StepTo w B gw gs (becomeW W b) (.tuple #[])) := by
 have HH := kH h
 have c3 : w.cell? ⟨gw, 3, none⟩ = some (.bool W.th) := h.blk.cell 3
 have hmm := @run_makeMap prog
 by_cases hth : W.th = b
 ·have hfin : StepTo w B gw gs (becomeW W b) (.tuple #[]) (.returned (.tuple #[])) w := ⟨rfl, by unfold becomeW; rw [if_pos hth]; exact ⟨_, _, _, _, _, _, _, _, _, h⟩, kB _ _⟩
  have HFIN := kH hfin
  clear h hfin
  generalize W.th = th at *
  subst hth
  go_enter func115, ntmps115
  go_wp2
  refine kZ (results_none rfl _ _ _) rfl ?_
  exact HFIN.out
 ·have hne : (W.th == b) = false := by simpa using hth
  have ha : Below w.heap.size w (w.alloc (.map #[] 0)) := (kB _ _).alloc (kR _) _
  have h1 := h.below ha
  have K1 : Blk (w.alloc (.map #[] 0)) gw 139 #[.slice D W.d.length c, av, .slice E W.e.length ce, .bool W.th, .slice T W.told.length ct, .pointer (some ⟨gs, 0, none⟩)] := h1.blk
  have M1 : SMap prog 9 (w.alloc (.map #[] 0)) w.heap.size [] := SMap.new w
  have c2 : (w.alloc (.map #[] 0)).cell? ⟨gw, 2, none⟩ = some (.slice E W.e.length ce) := K1.cell 2
  have H1 := kH (kA h1 (kA M1 ha))
  have hbd : ∀ (m : Nat) (w : World), (Instr.build 137 #[(1, .map (some m)), (2, .slice E W.e.length ce)]).run prog w = .ok (.agg #[.slice none 0 0, .map (some m), .slice E W.e.length ce]) w := fun m w => by kernel_rfl
  have HE : Hid (W.th ≠ b) := kH hth
  have hbw : becomeW W b = {W with th := b, d := [], a := []} := by unfold becomeW; rw [if_neg hth]
  have HBW := kH hbw
  clear h h1 M1 ha hth hbw
  go_enter func115, ntmps115
  go_wp2_with (first
   | (refine x6I rfl 137 _ _ rfl gw 139 _ _ _ _ _ _ _ _ _ rfl rfl K1 (by kernel_rfl) rfl rfl rfl ?_; intro w3 K3 o3 s3)
   | (refine x54 rfl 4 _ _ rfl gw 3 139 _ (.bool b) rfl rfl K3 (by simp) (by kernel_rfl) rfl ?_; intro w4 K4 o4 s4))
  refine kZ (results_none rfl _ _ _) rfl ?_
  obtain ⟨h1, M1, ha⟩ := H1.out
  have hs1 : (w.alloc (.map #[] 0)).heap.size = w.heap.size + 1 := kJ _ _
  have hz4 := o3.size
  have ho : Only [gw] (w.alloc (.map #[] 0)) w4 := o3.trans o4 (fun k hk => .inl hk)
  have hod : ∀ (e : TypeId), e ≠ 139 -> ∀ k ∈ [gw], Odd (w.alloc (.map #[] 0)) e k := fun e hq k hk => by simp at hk; subst hk; exact Odd.blk K1 hq.symm
  have hgl := HH.out.blk.lt
  refine ⟨rfl, ?_, (ha.mono hB).trans (ho.below (fun k hk => by simp at hk; subst hk; exact HH.out.gB) (by omega))⟩
  rw [HBW.out]
  exact ⟨0, ce, ct, none, E, T, .map (some w.heap.size), [], tv, ⟨K4, HH.out.gB, Own.nil _ _, (fun b hb => by cases hb), .inr ⟨w.heap.size, rfl, hB, M1.of (ho.block _ M1.lt (by simp; omega))⟩, .nil, x0N h1.ext ho (hod _ (by decide)), x0N h1.tol ho (hod _ (by decide)), h1.els.imp fun a b hr => (hr.only ho fun k hk => .inr (hod _ (by decide) k hk)).far (fun k hk => by simp [rowOf, Value.ownBlock] at hk)⟩⟩
section
open Go.RowKit Go.BigFrame Go.Maps Go.WideElems Go.ChangeMaps
theorem xGS (hx : x < 256) (hy : y < 256) (h : UInt8.ofNat x = UInt8.ofNat y) : x = y := by
 have := congrArg UInt8.toNat h
 simp at this
 omega
theorem xH1 {a b : LN} (ha : ∀ x ∈ a, x < 256) (hb : ∀ x ∈ b, x < 256) (h : strOf a = strOf b) : a = b := by
 have h1 := congrArg (fun s : ByteArray => s.data.toList) h
 simp only [x50] at h1
 have hl : a.length = b.length := by simpa using congrArg List.length h1
 apply ext_getElem?
 intro i
 have h2 := congrArg (fun l => l[i]?) h1
 simp only [List.getElem?_map] at h2
 by_cases hi : i < a.length
 ·rw [List.getElem?_eq_getElem hi, List.getElem?_eq_getElem (by omega)] at h2 ⊢
  simp at h2
  rw [xGS (ha _ (List.getElem_mem hi)) (hb _ (List.getElem_mem (by omega))) h2]
 ·rw [List.getElem?_eq_none (by omega), List.getElem?_eq_none (by omega)]
theorem xNT {bs' : LN} (h : Small bs) (h' : Small bs') : ((strOf bs).toList == (strOf bs').toList) = (bs == bs') := by
 rw [Bool.eq_iff_iff, beq_iff_eq, beq_iff_eq, ByteArray.toList_eq, ByteArray.toList_eq]
 exact ⟨fun e => xH1 h h' (Go.WideShapes.bytes_inj e), fun e => by rw [e]⟩
theorem x74 (A A' : OA) (n n' c c' B B' : Nat) (bs bs' : LN) (w : World) (h : Bytes w B A n bs) (h' : Bytes w B' A' n' bs') :
  Calls prog 124 #[.slice A n c, .slice A' n' c'] w fun e w' => e = .returned (.bool (bs == bs')) /\ w = w' := by
 have k1 := x4C (P := prog) h c 35 9 5 underlying35 underlying5 underlying9
 have k2 := x4C (P := prog) h' c' 35 9 5 underlying35 underlying5 underlying9
 have HE := kH (xNT h.2 h'.2)
 generalize strOf bs = s1 at *
 generalize strOf bs' = s2 at *
 clear h h'
 go_enter func124, ntmps124
 go_wp2
 go_ret
 exact ⟨by simp [HE.out], rfl⟩
theorem x4G (k : Int) (w : World) : Calls prog 164 #[.bool true, .int .i64 k] w fun e w' => e = .returned .nilIface /\ w = w' := by
 go_enter func164, ntmps164
 go_wp2
 go_ret
 exact ⟨rfl, rfl⟩
theorem x5H (k : Nat) (w : World) : Calls prog 164 #[.bool false, .int .i64 ((k + 1 : Nat) : Int)] w fun e w' => e = .returned (errV (k + 1)) /\ w = w' := by
 go_enter func164, ntmps164
 go_wp2
 go_ret
 exact ⟨rfl, rfl⟩
theorem xM5 (w : World) : Calls prog 164 #[.bool false, .int .i64 5] w fun e w' => e = .returned (errV 5) /\ w = w' := x5H 4 w
theorem xMS (w : World) : Calls prog 164 #[.bool false, .int .i64 6] w fun e w' => e = .returned (errV 6) /\ w = w' := x5H 5 w
theorem x9I (w : World) : Calls prog 164 #[.bool false, .int .i64 7] w fun e w' => e = .returned (errV 7) /\ w = w' := x5H 6 w
theorem xLR (w : World) : Calls prog 164 #[.bool false, .int .i64 8] w fun e w' => e = .returned (errV 8) /\ w = w' := x5H 7 w
def stepVal (x : StepV) (Dx : OA) (cx : Nat) : Value := .agg #[.int .i64 x.kd, .int .i64 x.at_, .int .i64 x.ln, .string (strOf x.nm), .slice Dx x.dt.length cx]
structure StepIn (w : World) (x : StepV) (Bx : Nat) (Dx : OA) : Prop where
 dat : Bytes w Bx Dx x.dt.length x.dt
 nm : Small x.nm
 at1 : -9223372036854775808 <= x.at_
 at2 : x.at_ <= 9223372036854775807
 ln1 : -9223372036854775808 <= x.ln
 ln2 : x.ln <= 9223372036854775807
 nl : x.nm.length <= 1000000
 dl : x.dt.length <= 1000000
theorem StepIn.since {x : StepV} (h : StepIn w x Bx Dx) (hb : Below w.heap.size w w') : StepIn w' x Bx Dx := ⟨h.dat.since hb, h.nm, h.at1, h.at2, h.ln1, h.ln2, h.nl, h.dl⟩
theorem xBE {W : Wk} (h : WkAt w B gw gs c ce ct D E T av kv tv W) (nm : LN) (hl : nm.length <= 1000000) :
  ∃ v b, (∀ w', Below w.heap.size w w' -> (Instr.lookup 134 av (.string (strOf nm)) true).run prog w' = .ok (.tuple #[v, .bool b]) w') /\ ((b = false /\ gget W.a (keyB nm) = none) ∨ ∃ A1 c1 bs, b = true /\ gget W.a (keyB nm) = some bs /\ v = .slice A1 bs.length c1 /\ RowR w 0 (rowOf (.slice D W.d.length c)) v bs) := by
 have hz : ∀ w, (zeroValue 35).run prog w = .ok (.slice none 0 0) w := fun w => by kernel_rfl
 rcases h.map with ⟨rfl, rfl, hth⟩ | ⟨mb, rfl, hB, hm⟩
 ·refine ⟨.slice none 0 0, false, fun w' _ => ?_, .inl ⟨rfl, ?_⟩⟩
  ·have := Maps.look_nil (P := prog) (w := w') (t := 134) (e := 35) true (string_keyed underlying9) underlying134 (hz w') (x6S underlying9 (keyB nm) (by simp [keyB, maxLen]; omega))
   rw [x17] at this
   exact this
  ·cases hg : gget W.a (keyB nm) with
   | none => rfl
   | some u =>
    have := h.att
    generalize W.a = l at *
    cases this
    cases hg
 ·rcases h.att.get AttrR.key (keyB nm) with ⟨h1, h2⟩ | ⟨v, u, h1, h2, -, hr⟩
  ·refine ⟨.slice none 0 0, false, fun w' hb => ?_, .inl ⟨rfl, h2⟩⟩
   have := x3M (P := prog) (t := 134) (et := 35) underlying9 underlying134 (hz w') (hm.of (hb.block _ hm.lt)) (keyB nm) (by simp [keyB, maxLen]; omega)
   rw [x17, h1] at this
   exact this
  ·obtain ⟨A1, c1, e, hr2⟩ := hr
   refine ⟨v, true, fun w' hb => ?_, .inr ⟨A1, c1, u, rfl, h2, e, ⟨A1, c1, e, hr2⟩⟩⟩
   have := x3M (P := prog) (t := 134) (et := 35) underlying9 underlying134 (hz w') (hm.of (hb.block _ hm.lt)) (keyB nm) (by simp [keyB, maxLen]; omega)
   rw [x17, h1] at this
   exact this
theorem xIE {W : Wk} (h : WkAt w B gw gs c ce ct D E T av kv tv W) {x : StepV} (hx : StepIn w x Bx Dx) (hk1 : 1 <= x.kd) (hk5 : x.kd <= 5) {bl : List Bool}
 (hbl : ∀ w', Below w.heap.size w w' -> Calls prog 165 #[.pointer (some ⟨gs, 0, none⟩), .int .i64 x.at_] w' fun e w'' => e = .returned (.bool (isClientB x.at_ && bl.getD x.at_.toNat false)) /\ w' = w'') :
  Calls prog 114 #[.pointer (some ⟨gw, 0, none⟩), stepVal x Dx cx] w fun e w' => e = .returned (errV (needW bl W x)) /\ Below w.heap.size w w' := by
 obtain ⟨kd, at_, ln, nm, dt⟩ := x
 obtain ⟨v, b, hlk, hlc⟩ := xBE h nm hx.nl
 have HX := kH hx
 clear hx
 dsimp only at *
 obtain ⟨w1, hw1⟩ := kX (w.alloc (.cells #[.int .i64 kd, .int .i64 at_, .int .i64 ln, .string (strOf nm), .slice Dx dt.length cx] 52))
 have hb1 : Below w.heap.size w w1 := by rw [hw1]; exact (kB _ _).alloc (kR _) _
 have h1 := h.below hb1
 have K1 : Blk w1 w.heap.size 52 #[.int .i64 kd, .int .i64 at_, .int .i64 ln, .string (strOf nm), .slice Dx dt.length cx] := by rw [hw1]; exact kW w _ _
 have HW1 := kH hw1
 have HB1 := kH hb1
 have HBL := kH hbl
 have HLC := kH hlc
 have hlk1 : ∀ q, (Instr.lookup 134 av (.string (strOf nm)) true).run prog (w1.drewN q) = .ok (.tuple #[v, .bool b]) (w1.drewN q) := fun q => hlk _ (x08 hb1 q)
 have ck : ∀ q, (w1.drewN q).cell? ⟨w.heap.size, 0, none⟩ = some (.int .i64 kd) /\ (w1.drewN q).cell? ⟨w.heap.size, 1, none⟩ = some (.int .i64 at_) /\ (w1.drewN q).cell? ⟨w.heap.size, 3, none⟩ = some (.string (strOf nm)) /\ (w1.drewN q).cell? ⟨w.heap.size, 4, none⟩ = some (.slice Dx dt.length cx) := fun q => ⟨K1.cell 0, K1.cell 1, K1.cell 3, K1.cell 4⟩
 have cw : ∀ q, (w1.drewN q).cell? ⟨gw, 1, none⟩ = some av /\ (w1.drewN q).cell? ⟨gw, 3, none⟩ = some (.bool W.th) /\ (w1.drewN q).cell? ⟨gw, 5, none⟩ = some (.pointer (some ⟨gs, 0, none⟩)) := fun q => ⟨h1.blk.cell 1, h1.blk.cell 3, h1.blk.cell 5⟩
 have q1 := ck 0
 have q2 := cw 0
 unfold stepVal
 dsimp only
 clear hlk hb1 hbl hlc hw1 K1
 go_enter func114, ntmps114
 go_wp2_with fail
 rw [<- HW1.out]
 go_quiet (fail)
 obtain ⟨w2, hw2⟩ := kX (w1.drewN nq)
 have ck2 : ∀ q, (w2.drewN q).cell? ⟨w.heap.size, 0, none⟩ = some (.int .i64 kd) /\ (w2.drewN q).cell? ⟨w.heap.size, 1, none⟩ = some (.int .i64 at_) /\ (w2.drewN q).cell? ⟨w.heap.size, 3, none⟩ = some (.string (strOf nm)) /\ (w2.drewN q).cell? ⟨w.heap.size, 4, none⟩ = some (.slice Dx dt.length cx) := by rw [hw2]; intro q; exact ck q
 have cw2 : ∀ q, (w2.drewN q).cell? ⟨gw, 1, none⟩ = some av /\ (w2.drewN q).cell? ⟨gw, 3, none⟩ = some (.bool W.th) /\ (w2.drewN q).cell? ⟨gw, 5, none⟩ = some (.pointer (some ⟨gs, 0, none⟩)) := by rw [hw2]; intro q; exact cw q
 have HB2 : Hid (Below w.heap.size w w2) := kH (by rw [hw2]; exact x1C HB1.out _)
 have q1 : w2.cell? ⟨w.heap.size, 0, none⟩ = some (.int .i64 kd) /\ w2.cell? ⟨w.heap.size, 1, none⟩ = some (.int .i64 at_) /\ w2.cell? ⟨w.heap.size, 3, none⟩ = some (.string (strOf nm)) /\ w2.cell? ⟨w.heap.size, 4, none⟩ = some (.slice Dx dt.length cx) := ck2 0
 have q2 : w2.cell? ⟨gw, 1, none⟩ = some av /\ w2.cell? ⟨gw, 3, none⟩ = some (.bool W.th) /\ w2.cell? ⟨gw, 5, none⟩ = some (.pointer (some ⟨gs, 0, none⟩)) := cw2 0
 rw [<- hw2]
 clear hw2 ck cw hlk1 HW1
 have hkd : kd = 1 ∨ kd = 2 ∨ kd = 3 ∨ kd = 4 ∨ kd = 5 := by omega
 rcases hkd with rfl | rfl | rfl | rfl | rfl
 ·cases hth : W.th
  ·have HT := kH hth
   simp only [hth] at q2 cw2
   go_wp2_with (first | (refine (xMS _).mono ?_; rintro e w' ⟨rfl, rfl⟩))
   go_ret
   exact ⟨by simp [needW, HT.out], HB2.out⟩
  ·have HT := kH hth
   simp only [hth] at q2 cw2
   go_wp2_with (first | (refine (x4G 6 _).mono ?_; rintro e w' ⟨rfl, rfl⟩))
   go_ret
   exact ⟨by simp [needW, HT.out, errV], HB2.out⟩
 ·cases hth : W.th
  ·have HT := kH hth
   simp only [hth] at q2 cw2
   go_wp2_with (first | (refine (x4G 5 _).mono ?_; rintro e w' ⟨rfl, rfl⟩))
   go_ret
   exact ⟨by simp [needW, HT.out, errV], HB2.out⟩
  ·have HT := kH hth
   simp only [hth] at q2 cw2
   go_wp2_with (first | (refine (xM5 _).mono ?_; rintro e w' ⟨rfl, rfl⟩))
   go_ret
   exact ⟨by simp [needW, HT.out], HB2.out⟩
 ·rcases HLC.out with ⟨rfl, hg⟩ | ⟨A1, c1, bs, rfl, hg, rfl, A2, c2, e2, hown, hsm, -⟩
  ·have HG := kH hg
   clear hg
   go_wp2_with (first | (refine (x9I _).mono ?_; rintro e w' ⟨rfl, rfl⟩))
   go_ret
   exact ⟨by simp [needW, HG.out], HB2.out⟩
  ·have HG := kH hg
   have HEQ := kH (x74 A1 Dx bs.length dt.length c1 cx w.heap.size Bx bs dt w2 ((hown.bytes hsm).since HB2.out) (HX.out.dat.since HB2.out))
   have hH := HB2
   clear hg e2 hown hsm
   cases hbd : (bs == dt)
   ·have hne : bs ≠ dt := by simpa using hbd
    rw [hbd] at HEQ
    have HN := kH hne
    clear hne
    go_wp2_with (first | (refine HEQ.out.mono ?_; rintro e w' ⟨rfl, rfl⟩) | (refine (x9I _).mono ?_; rintro e w' ⟨rfl, rfl⟩))
    go_ret
    exact ⟨by simp [needW, HG.out, HN.out], HB2.out⟩
   ·have hne : bs = dt := by simpa using hbd
    rw [hbd] at HEQ
    have HN := kH hne
    clear hne
    go_wp2_with (first | (refine HEQ.out.mono ?_; rintro e w' ⟨rfl, rfl⟩) | (refine (x4G 7 _).mono ?_; rintro e w' ⟨rfl, rfl⟩))
    go_ret
    exact ⟨by simp [needW, HG.out, HN.out, errV], HB2.out⟩
 ·rcases HLC.out with ⟨rfl, hg⟩ | ⟨A1, c1, bs, rfl, hg, rfl, -⟩
  ·have HG := kH hg
   clear hg
   go_wp2_with (first | (refine (x4G 7 _).mono ?_; rintro e w' ⟨rfl, rfl⟩))
   go_ret
   exact ⟨by simp [needW, HG.out, errV], HB2.out⟩
  ·have HG := kH hg
   clear hg
   go_wp2_with (first | (refine (x9I _).mono ?_; rintro e w' ⟨rfl, rfl⟩))
   go_ret
   exact ⟨by simp [needW, HG.out], HB2.out⟩
 ·have HI := kH (x2B at_)
  cases hc : isClientB at_
  ·have HC := kH hc
   go_wp2_with fail
   refine (HI.out _).mono ?_
   rintro e w' ⟨rfl, rfl⟩
   rw [HC.out]
   clear hc HI HBL
   go_wp2
   go_ret
   exact ⟨by simp [needW, HC.out, errV], HB2.out⟩
  ·have HC := kH hc
   have hbq : ∀ q, Calls prog 165 #[.pointer (some ⟨gs, 0, none⟩), .int .i64 at_] (w2.drewN q) fun e w'' => e = .returned (.bool (bl.getD at_.toNat false)) /\ w2.drewN q = w'' := fun q => by
    have := HBL.out (w2.drewN q) (x08 HB2.out q)
    rw [HC.out, Bool.true_and] at this
    exact this
   clear HBL
   go_wp2_with fail
   refine (HI.out _).mono ?_
   rintro e w' ⟨rfl, rfl⟩
   rw [HC.out]
   clear hc HI
   cases hbv : bl.getD at_.toNat false
   ·rw [hbv] at hbq
    have HBQ := kH hbq
    have HV := kH hbv
    clear hbq hbv
    go_wp2_with fail
    go_quiet (first
     | (go_at_call 165; exact Calls.quiet_of_same ((HBQ.out _).mono fun e w' h => ⟨h.1, h.2.symm⟩))
     | (go_at_call 164; exact Calls.quiet_of_same ((x4G 8 _).mono fun e w' h => ⟨h.1, h.2.symm⟩)))
    go_wp2
    go_ret
    exact ⟨by simp only [needW]; rw [HC.out, HV.out]; rfl, x1C HB2.out _⟩
   ·rw [hbv] at hbq
    have HBQ := kH hbq
    have HV := kH hbv
    clear hbq hbv
    go_wp2_with fail
    go_quiet (first
     | (go_at_call 165; exact Calls.quiet_of_same ((HBQ.out _).mono fun e w' h => ⟨h.1, h.2.symm⟩))
     | (go_at_call 164; exact Calls.quiet_of_same ((xLR _).mono fun e w' h => ⟨h.1, h.2.symm⟩)))
    go_wp2
    go_ret
    exact ⟨by simp only [needW]; rw [HC.out, HV.out]; rfl, x1C HB2.out _⟩
end
def stepC (x : StepV) (Dx : OA) (cx : Nat) : Array Value := #[.int .i64 x.kd, .int .i64 x.at_, .int .i64 x.ln, .string (strOf x.nm), .slice Dx x.dt.length cx]
def Two2 (gw g3 : Nat) (wc sc : Array Value) (w : World) : Prop := Blk w gw 139 wc /\ Blk w g3 52 sc
theorem xHU {Q : Exit -> Act -> World -> Prop} {o : Oper} {a : Act} {K : Act -> World -> Prop} (hv : (execOp a.eval o).run P w = .ok .skip w') (h : K (a.put o.dst undef) w') : Oper.wp P o a w K Q := by
 unfold Oper.wp
 rw [hv]
 exact h
theorem xOV {w3 w4 : World} {W : Wk} (h : WkAt w B gw gs c ce ct D E T av kv tv W) (hB : B <= w.heap.size) (hav : av = .map (some mb)) (hmB : B <= mb) (hb : Below w.heap.size w w3) {k : Key} {v : Value} (hv : RowR w3 0 (rowOf (.slice D W.d.length c)) v bs)
 (hm : SMap prog 9 w4 mb (aput k v kv)) (hg : w3.grownBy w4 (some mb)) : Wkd w4 B gw gs {W with a := gput k bs W.a} /\ Below B w w4 := by
 have h3 := h.below hb
 have hs := hb.size
 have ho : Only [mb] w3 w4 := (kU _ _).grown hg (fun g e => .inl (by injection e with e; simp [e]))
 have hmap : SMap prog 9 w3 mb kv := by
  rcases h3.map with ⟨e, _⟩ | ⟨mb', e, h1, h2⟩
  ·rw [e] at hav; cases hav
  ·rw [e] at hav
   injection hav with hav
   injection hav with hav
   subst hav
   exact h2
 have hod : ∀ (e : TypeId), ∀ k ∈ [mb], Odd w3 e k := fun e k hk => by simp at hk; subst hk; exact Odd.map hmap
 refine ⟨h3.attrs hav ho hm ?_, (hb.mono hB).trans (ho.below (fun k hk => by simp at hk; omega) (by omega))⟩
 have hr : Rel2 (AttrR w4 (rowOf (.slice D W.d.length c))) kv W.a := h3.att.imp fun a b hr => ⟨hr.1, hr.2.only ho fun k hk => .inr (hod _ k hk)⟩
 exact hr.put AttrR.key ⟨rfl, hv.only ho fun k hk => .inr (hod _ k hk)⟩
theorem xO8 {w3 w4 : World} {W : Wk} (h : WkAt w B gw gs c ce ct D E T av kv tv W) (hB : B <= w.heap.size) (hav : av = .map (some mb)) (hmB : B <= mb) (hb : Below w.heap.size w w3) {k : Key}
 (hm : SMap prog 9 w4 mb (adel k kv)) (hg : w3.grownBy w4 (some mb)) : Wkd w4 B gw gs {W with a := gdel k W.a} /\ Below B w w4 := by
 have h3 := h.below hb
 have hs := hb.size
 have ho : Only [mb] w3 w4 := (kU _ _).grown hg (fun g e => .inl (by injection e with e; simp [e]))
 have hmap : SMap prog 9 w3 mb kv := by
  rcases h3.map with ⟨e, _⟩ | ⟨mb', e, h1, h2⟩
  ·rw [e] at hav; cases hav
  ·rw [e] at hav
   injection hav with hav
   injection hav with hav
   subst hav
   exact h2
 have hod : ∀ (e : TypeId), ∀ k ∈ [mb], Odd w3 e k := fun e k hk => by simp at hk; subst hk; exact Odd.map hmap
 refine ⟨h3.attrs hav ho hm ?_, (hb.mono hB).trans (ho.below (fun k hk => by simp at hk; omega) (by omega))⟩
 have hr : Rel2 (AttrR w4 (rowOf (.slice D W.d.length c))) kv W.a := h3.att.imp fun a b hr => ⟨hr.1, hr.2.only ho fun k hk => .inr (hod _ k hk)⟩
 exact hr.del AttrR.key k
theorem xNG {W : Wk} (h : WkAt w B gw gs c ce ct D E T av kv tv W) (hB : B <= w.heap.size) (hth : W.th = true) (ha : W.a.length <= 1000000) (ht : W.told.length <= 1000000) (hsm : ∀ k bs, gget W.a k = some bs -> bs.length <= 1000000)
 {x : StepV} (hx : StepIn w x Bx Dx) (hk : x.kd = 11 ∨ x.kd = 12 ∨ x.kd = 14) :
  Calls prog 166 #[.pointer (some ⟨gw, 0, none⟩), stepVal x Dx cx] w (StepTo w B gw gs (insideW W x).1 (errV (insideW W x).2)) := by
 obtain ⟨mb, rfl, hmB, hmm⟩ : ∃ mb, av = .map (some mb) /\ B <= mb /\ SMap prog 9 w mb kv := by
  rcases h.map with ⟨_, _, e⟩ | hh
  ·rw [hth] at e; cases e
  ·exact hh
 obtain ⟨kd, at_, ln, nm, dt⟩ := x
 dsimp only at *
 obtain ⟨w1, hw1⟩ := kX (w.alloc (.cells #[.int .i64 kd, .int .i64 at_, .int .i64 ln, .string (strOf nm), .slice Dx dt.length cx] 52))
 obtain ⟨g3, hg3⟩ := kX w.heap.size
 have hb1 : Below w.heap.size w w1 := by rw [hw1]; exact (kB _ _).alloc (kR _) _
 have h1 := h.below hb1
 have K1 : Blk w1 g3 52 (stepC ⟨kd, at_, ln, nm, dt⟩ Dx cx) := by rw [hw1, hg3]; exact kW w _ _
 have HH := kH h
 have HX := kH hx
 have HKV : Hid (kv.length = W.a.length) := kH h.att.len
 have HW1 := kH (kA hw1 hg3)
 have HB1 := kH hb1
 have HTH := kH hth
 have HLK := kH (xBE h nm hx.nl)
 have HC : Hid (∀ w', Two2 gw g3 (workC D W.d.length c (.map (some mb)) E W.e.length ce W.th T W.told.length ct gs) (stepC ⟨kd, at_, ln, nm, dt⟩ Dx cx) w' -> w'.cell? ⟨gw, 1, none⟩ = some (.map (some mb)) /\ w'.cell? ⟨g3, 3, none⟩ = some (.string (strOf nm)) /\ w'.cell? ⟨g3, 4, none⟩ = some (.slice Dx dt.length cx)) := kH fun w' h => ⟨h.1.cell 1, h.2.cell 3, h.2.cell 4⟩
 have HMM := kH hmm
 have q0 : w1.cell? ⟨g3, 0, none⟩ = some (.int .i64 kd) := K1.cell 0
 have q3 : w1.cell? ⟨g3, 3, none⟩ = some (.string (strOf nm)) := K1.cell 3
 have HNM := kH (x3Z nm hx.nm hx.nl w1)
 unfold stepVal
 dsimp only
 clear h hx hb1 hw1 hth hmm hg3
 go_enter func166, ntmps166
 rcases hk with rfl | rfl | rfl
 -- {A
 ·go_wp2_with (first | rw [<- HW1.out.1, <- HW1.out.2])
  refine HNM.out.mono ?_
  rintro e w2 ⟨rfl, hb2⟩
  have hb02 : Below w.heap.size w w2 := HB1.out.trans (hb2.mono HB1.out.size)
  have h2 := h1.below hb2
  have K2 := K1.of (hb2.block _ K1.lt)
  have q4 : w2.cell? ⟨g3, 4, none⟩ = some (.slice Dx dt.length cx) := K2.cell 4
  have H2 := kH (kA h2 hb02)
  have HK2 := kH K2
  clear h1 h2 hb2 hb02 K1 K2 q0 q3 HW1 HNM
  cases hnm : isNameB nm
  ·have HN := kH hnm
   clear hnm
   go_wp2
   go_ret
   have hin : insideW W ⟨11, at_, ln, nm, dt⟩ = (W, 1) := by simp [insideW, HN.out]
   rw [hin]
   exact ⟨rfl, ⟨_, _, _, _, _, _, _, _, _, H2.out.1⟩, H2.out.2.mono hB⟩
  ·have HN := kH hnm
   clear hnm
   by_cases hlen : dt.length <= 1024
   ·have hd : decide ((1024 : Int) < (dt.length : Int)) = false := decide_eq_false (by omega)
    have hin : insideW W ⟨11, at_, ln, nm, dt⟩ = ({W with a := gput (keyB nm) dt W.a}, 0) := by simp [insideW, HN.out, hlen]
    have HIN := kH hin
    clear hin
    go_wp2_with fail
    have hS : Two2 gw g3 (workC D W.d.length c (.map (some mb)) E W.e.length ce W.th T W.told.length ct gs) (stepC ⟨11, at_, ln, nm, dt⟩ Dx cx) w2.drew := ⟨H2.out.1.blk.drew, HK2.out.drew⟩
    refine x09 (Two2 gw g3 (workC D W.d.length c (.map (some mb)) E W.e.length ce W.th T W.told.length ct gs) (stepC ⟨11, at_, ln, nm, dt⟩ Dx cx)) 10 (by kernel_rfl) ?_
    refine tU 0 (.pointer (some ⟨gw, 0, none⟩)) rfl (fun w hw => by kernel_rfl) hS ?_
    refine tU 1 (.pointer (some ⟨gw, 0, none⟩)) rfl (fun w hw => by kernel_rfl) hS ?_
    refine tU 2 (.pointer (some ⟨gw, 0, none⟩)) rfl (fun w hw => by go_simp) hS ?_
    refine tU 3 (.pointer (some ⟨gw, 1, none⟩)) rfl (fun w hw => by go_simp) hS ?_
    refine tU 4 (.map (some mb)) rfl (fun w hw => by have q := (HC.out w hw).1; go_simp) hS ?_
    refine tU 5 (.pointer (some ⟨g3, 3, none⟩)) rfl (fun w hw => by go_simp) hS ?_
    refine tU 6 (.string (strOf nm)) rfl (fun w hw => by have q := (HC.out w hw).2.1; go_simp) hS ?_
    refine tU 7 (.pointer (some ⟨g3, 4, none⟩)) rfl (fun w hw => by go_simp) hS ?_
    refine tU 8 (.slice Dx dt.length cx) rfl (fun w hw => by have q := (HC.out w hw).2.2; go_simp) hS ?_
    refine tO 9 ?_
    refine x03 (by kernel_rfl) (x0Q Dx dt.length cx dt w2.drew Bx (by have := HX.out.dl; simp at this; omega) (HX.out.dat.since H2.out.2).drew) ?_
    rintro e w3 ⟨v, rfl, hv, hb3⟩
    have hb3' : Below w2.heap.size w2 w3 := x0L hb3
    have hb03 : Below w.heap.size w w3 := H2.out.2.trans (hb3'.mono H2.out.2.size)
    refine ⟨_, rfl, ⟨H2.out.1.blk.of (hb3'.block _ H2.out.1.blk.lt), HK2.out.of (hb3'.block _ HK2.out.lt)⟩, ?_⟩
    simp only [nH, pu, nB, nC, nD]
    have hm3 : SMap prog 9 w3 mb kv := HMM.out.of (hb03.block _ HMM.out.lt)
    obtain ⟨w4, hrun, hm4, hg4, -⟩ := x2A (P := prog) underlying9 underlying134 hm3 (keyB nm) (by have := HX.out.nl; simp [keyB, maxLen] at this ⊢; omega) (by rw [HKV.out]; simp only [maxLen]; omega) v
    rw [x17] at hrun
    have hfin : StepTo w B gw gs (insideW W ⟨11, at_, ln, nm, dt⟩).1 (errV (insideW W ⟨11, at_, ln, nm, dt⟩).2) (.returned .nilIface) w4 := by
     rw [HIN.out]
     obtain ⟨x1, x2⟩ := xOV HH.out hB rfl hmB hb03 (v := v) (bs := dt) (by
      obtain ⟨A1, c1, rfl, -⟩ := hv.form
      exact ⟨A1, c1, rfl, hv.weaken (kY _), HX.out.dat.2, fun k hk hm => by
       have a1 := x0G hv k hk
       have a2 := x02 HH.out.dat k hm
       have a3 := H2.out.2.size
       have a4 : w2.drew.heap.size = w2.heap.size := rfl
       omega⟩) hm4 hg4
     exact ⟨rfl, x1, x2⟩
    have HFIN := kH hfin
    have HRUN := kH hrun
    clear hfin hm4 hg4 hm3 hb03 hb3' hb3 hv hS hrun
    refine tZ ?_
    refine xHU (w' := w4) (by have q := HRUN.out; go_simp) ?_
    refine NoPanic.normal ?_
    simp only [nH, pu, nB, nC, nD]
    go_wp2
    go_ret
    exact HFIN.out
   ·have hd : decide ((1024 : Int) < (dt.length : Int)) = true := decide_eq_true (by omega)
    have hin : insideW W ⟨11, at_, ln, nm, dt⟩ = (W, 1) := by simp [insideW, HN.out, hlen]
    have HIN := kH hin
    clear hin
    go_wp2
    go_ret
    rw [HIN.out]
    exact ⟨rfl, ⟨_, _, _, _, _, _, _, _, _, H2.out.1⟩, H2.out.2.mono hB⟩
 -- A}
 -- {Bq
 ·go_wp2_with fail
  rw [<- HW1.out.1, <- HW1.out.2]
  have hin : insideW W ⟨12, at_, ln, nm, dt⟩ = ({W with a := gdel (keyB nm) W.a}, 0) := by simp [insideW]
  have HIN := kH hin
  have hS : Two2 gw g3 (workC D W.d.length c (.map (some mb)) E W.e.length ce W.th T W.told.length ct gs) (stepC ⟨12, at_, ln, nm, dt⟩ Dx cx) w1.drew := ⟨h1.blk.drew, K1.drew⟩
  refine x09 (Two2 gw g3 (workC D W.d.length c (.map (some mb)) E W.e.length ce W.th T W.told.length ct gs) (stepC ⟨12, at_, ln, nm, dt⟩ Dx cx)) 99 (by kernel_rfl) ?_
  refine tV 0 (.pointer (some ⟨gw, 0, none⟩)) rfl (fun w hw => by kernel_rfl) hS ?_
  refine tV 1 (.pointer (some ⟨gw, 0, none⟩)) rfl (fun w hw => by kernel_rfl) hS ?_
  refine tV 2 (.pointer (some ⟨gw, 0, none⟩)) rfl (fun w hw => by go_simp) hS ?_
  refine tV 3 (.pointer (some ⟨gw, 1, none⟩)) rfl (fun w hw => by go_simp) hS ?_
  refine tV 4 (.map (some mb)) rfl (fun w hw => by have q := (HC.out w hw).1; go_simp) hS ?_
  refine tV 5 (.pointer (some ⟨g3, 3, none⟩)) rfl (fun w hw => by go_simp) hS ?_
  refine tV 6 (.string (strOf nm)) rfl (fun w hw => by have q := (HC.out w hw).2.1; go_simp) hS ?_
  have hm3 : SMap prog 9 w1.drew mb kv := HMM.out.of (HB1.out.block _ HMM.out.lt)
  obtain ⟨w4, hrun, hm4, hg4, -⟩ := x4L (P := prog) (ty := 0) underlying9 underlying134 hm3 (keyB nm) (by have := HX.out.nl; simp [keyB, maxLen] at this ⊢; omega)
  rw [x17] at hrun
  have hfin : StepTo w B gw gs (insideW W ⟨12, at_, ln, nm, dt⟩).1 (errV (insideW W ⟨12, at_, ln, nm, dt⟩).2) (.returned .nilIface) w4 := by
   rw [HIN.out]
   obtain ⟨x1, x2⟩ := xO8 HH.out hB rfl hmB (x08 HB1.out 1) hm4 hg4
   exact ⟨rfl, x1, x2⟩
  have hS4 : Two2 gw g3 (workC D W.d.length c (.map (some mb)) E W.e.length ce W.th T W.told.length ct gs) (stepC ⟨12, at_, ln, nm, dt⟩ Dx cx) w4 := ⟨hS.1.grown hg4 (fun e => by injection e with e; exact hm3.ne_blk hS.1 e.symm), hS.2.grown hg4 (fun e => by injection e with e; exact hm3.ne_blk hS.2 e.symm)⟩
  have HFIN := kH hfin
  have HRUN := kH hrun
  clear hfin hm4 hg4 hm3 hS hrun hin
  refine tO 7 ?_
  refine x0A (v := .tuple #[]) (w' := w4) (by have q := HRUN.out; go_simp) ⟨hS4, ?_⟩
  simp only [nH, pu, nB, nC, nD]
  refine tE ?_
  go_wp2
  go_ret
  exact HFIN.out
 -- Bq}
 -- {Cq
 ·obtain ⟨v, b, hlk, hlc⟩ := HLK.out
  have HLC := kH hlc
  have hlk1 : ∀ q, (Instr.lookup 134 (.map (some mb)) (.string (strOf nm)) true).run prog (w1.drewN q) = .ok (.tuple #[v, .bool b]) (w1.drewN q) := fun q => hlk _ (x08 HB1.out q)
  have ck : ∀ q, (w1.drewN q).cell? ⟨g3, 3, none⟩ = some (.string (strOf nm)) := fun q => K1.cell 3
  have cw : ∀ q, (w1.drewN q).cell? ⟨gw, 1, none⟩ = some (.map (some mb)) := fun q => h1.blk.cell 1
  clear hlk hlc HLK
  go_wp2_with fail
  rw [<- HW1.out.1, <- HW1.out.2]
  go_quiet (fail)
  obtain ⟨w2, hw2⟩ := kX (w1.drewN nq)
  have h2 : WkAt w2 B gw gs c ce ct D E T (.map (some mb)) kv tv W := by rw [hw2]; exact h1.below (x08 (kB _ _) _)
  have hb02 : Below w.heap.size w w2 := by rw [hw2]; exact x08 HB1.out _
  rw [<- hw2]
  have H2 := kH (kA h2 hb02)
  clear hw2 ck cw hlk1 HW1 h1 h2 hb02 K1 q0 q3 HNM
  rcases HLC.out with ⟨rfl, hg⟩ | ⟨A1, c1, bs, rfl, hg, rfl, A2, c2, e2, hown, hsm2, -⟩
  ·have hin : insideW W ⟨14, at_, ln, nm, dt⟩ = (W, 6) := by simp [insideW, hg]
   have HIN := kH hin
   clear hin hg
   go_wp2
   go_ret
   rw [HIN.out]
   exact ⟨rfl, ⟨_, _, _, _, _, _, _, _, _, H2.out.1⟩, H2.out.2.mono hB⟩
  ·have hin : insideW W ⟨14, at_, ln, nm, dt⟩ = ({W with told := W.told ++ [bs]}, 0) := by simp [insideW, hg]
   have HIN := kH hin
   have HT := kH (xDE (nx := 0) (cx := c1) H2.out.1 (by have := H2.out.2.size; omega) ht ((hown.bytes hsm2).since H2.out.2) (hsm _ _ hg))
   clear hin hg e2 hown hsm2
   go_wp2_with (first | (refine HT.out.mono ?_; rintro e w' ⟨⟨rfl, hw, hb⟩, -⟩))
   go_ret
   rw [HIN.out]
   exact ⟨rfl, hw, (H2.out.2.mono hB).trans hb⟩
 -- Cq}
theorem xE4 (A : OA) : A.map (·.add 0) = A := by cases A <;> simp [Addr.add]
theorem x9N {m : Nat} (h : Bytes w B D m d) (hc : m <= c) (at_ n : Nat) : ∃ A2, partV D m c at_ n = .slice A2 (partB d at_ n).length (c - partA m at_) /\ Bytes w B A2 (partB d at_ n).length (partB d at_ n) /\ ((D = none ∨ 0 < (partB d at_ n).length) -> A2 = D.map (·.add (min at_ m))) := by
 have hl := h.len
 have hcut := h.1.cut (k := min at_ m) (cap := c) (by omega) hc
 have hd : (u8s d).drop (min at_ m * 1) = u8s (d.drop (min at_ m)) := by simp [u8s, map_drop]
 rw [hd] at hcut
 have hlen : (partB d at_ n).length = min n (m - min at_ m) := by unfold partB; rw [hl]; simp; omega
 have hB1 : Bytes w B (if c = min at_ m then D else D.map (·.add (min at_ m * 1))) (m - min at_ m) (d.drop (min at_ m)) := ⟨hcut, fun b hb => h.2 b (mem_of_mem_drop hb)⟩
 have hB2 := hB1.take (k := min n (m - min at_ m)) (by omega)
 have e2 : (d.drop (min at_ m)).take (min n (m - min at_ m)) = partB d at_ n := by unfold partB; rw [hl]
 rw [e2] at hB2
 refine ⟨if c = min at_ m then D else D.map (·.add (min at_ m * 1)), ?_, by rw [hlen]; exact hB2, fun hh => ?_⟩
 ·unfold partV partK partA
  rw [xE4, hlen]
  congr 1
  split <;> rfl
 ·rcases hh with rfl | hh
  ·simp
  ·rw [if_neg (by omega), Nat.mul_one]
theorem xKG {at_ : Nat} {R : LN} (h : Own w base (.slice (some ⟨b, 0, none⟩) n c) n R) (hk : at_ + k <= n) (h0 : 0 < k) :
  ∃ w', (∀ ty cc, (Builtin.clear_ #[35] ty #[.slice (some ⟨b, at_, none⟩) k cc]).run prog w = .ok (.tuple #[]) w') /\ Own w' base (.slice (some ⟨b, 0, none⟩) n c) n (R.take at_ ++ List.replicate k 0 ++ R.drop (at_ + k)) /\ Only [b] w w' := by
 have hv : ∀ w, (zeroValue 5).run prog w = .ok (.int .u8 0) w := fun w => by kernel_rfl
 obtain ⟨cur, hcur, hfit, hown, hon⟩ := xD6 (at_ := at_) (nb := List.replicate k 0) h (by simpa using hk)
 have hu : u8s (List.replicate k 0) = List.replicate k (Value.int .u8 0) := by simp [u8s, u8]
 have hst := run_storeCells_at prog b at_ 5 (List.replicate k (Value.int .u8 0)) 0 cur w hcur (by simpa using hfit) (fun u hu => by rw [eq_of_mem_replicate hu]; rfl)
 rw [hu] at hown hon
 simp only [length_replicate] at hown hon hst
 refine ⟨_, fun ty cc => ?_, hown, hon⟩
 obtain ⟨m, rfl⟩ : ∃ m, k = m + 1 := ⟨k - 1, by omega⟩
 have hz := x7N (m + 1)
 simp [Builtin.clear_, run_underlying underlying35, hv, hz] at hst ⊢
 simp [hst]
theorem xD7 (A2 : OA) (n c2 g : Nat) (hn : n = 0) (at_ : Int) (w : World) : Calls prog 168 #[.pointer (some ⟨g, 0, none⟩), .int .i64 at_, .slice A2 n c2] w fun e w' => e = .returned (.tuple #[]) /\ w = w' := by
 have hkb : ((n : Int) == 0) = true := by simp [hn]
 clear hn
 go_enter func168, ntmps168
 go_wp2
 refine bodyPost_ret (results_none rfl _ _ _) rfl ?_
 exact ⟨rfl, rfl⟩
theorem xE8 {nb : LN} {at_ : Nat} (h : Small d) (h' : Small nb) : Small (writeB d at_ nb) := by
 have hz : ∀ n, Small (resizeB d n) := fun n b hb => by
  unfold resizeB at hb
  rcases mem_append.1 hb with hb | hb
  ·exact h b (mem_of_mem_take hb)
  ·rw [eq_of_mem_replicate hb]; omega
 intro b hb
 unfold writeB at hb
 split at hb
 ·exact h b hb
 ·rcases mem_append.1 hb with hb | hb
  ·rcases mem_append.1 hb with hb | hb
   ·exact hz _ b (mem_of_mem_take hb)
   ·exact h' b hb
  ·exact hz _ b (mem_of_mem_drop hb)
theorem xCC (h : Small d) : Small (resizeB d n) := fun b hb => by
 unfold resizeB at hb
 rcases mem_append.1 hb with hb | hb
 ·exact h b (mem_of_mem_take hb)
 ·rw [eq_of_mem_replicate hb]; omega
theorem xF5 {at_ : Nat} (h : Small d) : Small (zeroB d at_ n) := fun b hb => by
 unfold zeroB at hb
 rcases mem_append.1 hb with hb | hb
 ·rcases mem_append.1 hb with hb | hb
  ·exact h b (mem_of_mem_take hb)
  ·rw [eq_of_mem_replicate hb]; omega
 ·exact h b (mem_of_mem_drop hb)
theorem xN1 {W : Wk} (h : WkAt w B gw gs c ce ct D E T av kv tv W) (hB : B <= w.heap.size) (hd : W.d.length <= 1000000) {at_ : Nat} {dt : LN} (hx : Bytes w Bx Dx dt.length dt) (hBx : Bx <= B) (hat : at_ + dt.length <= 1000000) :
  Calls prog 168 #[.pointer (some ⟨gw, 0, none⟩), .int .i64 (at_ : Int), .slice Dx dt.length cx] w (fun e w' => StepTo w B gw gs {W with d := writeB W.d at_ dt} (.tuple #[]) e w' /\ ∀ k cs, Blk w k 52 cs -> w'.heap[k]? = w.heap[k]?) := by
 by_cases hl : dt.length = 0
 ·have hwb : writeB W.d at_ dt = W.d := by unfold writeB; rw [if_pos hl]
  rw [hwb]
  refine (xD7 Dx dt.length cx gw hl at_ w).mono ?_
  rintro e w' ⟨rfl, rfl⟩
  exact ⟨⟨rfl, ⟨_, _, _, _, _, _, _, _, _, h⟩, kB _ _⟩, fun _ _ _ => rfl⟩
 ·have hgB := h.gB
  refine (xFU (nb := dt) (at_ := at_) (c2 := cx) h.blk (by decide) (by rfl) h.dat hB hx (by omega) (fun ad hA => ?_) hat hd).mono ?_
  ·obtain ⟨ad', e, hb, _⟩ := hx.1.2 (by omega)
   rw [hA] at e
   injection e with e
   subst e
   refine ⟨by omega, fun hm => ?_⟩
   have := x0G h.dat _ hm
   omega
  ·rintro e w' ⟨rfl, D', n', c', hb, ho, hon, hnew⟩
   refine ⟨⟨rfl, h.data hb ho hon hnew (xE8 h.ok hx.2), hon.below (fun k hk => ?_) hB⟩, fun k cs hk => hon.block k hk.lt fun hm => ?_⟩
   ·rcases kQ hk with rfl | hk
    ·exact hgB
    ·exact x0G h.dat k hk
   ·rcases kQ hm with rfl | hm
    ·exact hk.ne_ h.blk (by decide) rfl
    ·obtain ⟨cs', hb'⟩ := x0J h.dat (x00.1 hm)
     exact hk.ne_ hb' (by decide) rfl
theorem xJN {W : Wk} (h : WkAt w B gw gs c ce ct D E T av kv tv W) (hB : B <= w.heap.size) (hd : W.d.length <= 1000000) (hn : n <= 1000000) :
  Calls prog 170 #[.pointer (some ⟨gw, 0, none⟩), .int .i64 (n : Int)] w (fun e w' => StepTo w B gw gs {W with d := resizeB W.d n} (.tuple #[]) e w' /\ ∀ k cs, Blk w k 52 cs -> w'.heap[k]? = w.heap[k]?) := by
 have hgB := h.gB
 refine (xAE (n := n) h.blk (by decide) (by rfl) h.dat hB hn hd).mono ?_
 rintro e w' ⟨rfl, D', c', hb, ho, hon, hnew⟩
 refine ⟨⟨rfl, h.data hb ho hon hnew (xCC h.ok), hon.below (fun k hk => ?_) hB⟩, fun k cs hk => hon.block k hk.lt fun hm => ?_⟩
 ·rcases kQ hk with rfl | hk
  ·exact hgB
  ·exact x0G h.dat k hk
 ·rcases kQ hm with rfl | hm
  ·exact hk.ne_ h.blk (by decide) rfl
  ·obtain ⟨cs', hb'⟩ := x0J h.dat (x00.1 hm)
   exact hk.ne_ hb' (by decide) rfl
theorem xLI {W : Wk} (h : WkAt w B gw gs c ce ct D E T av kv tv W) (hB : B <= w.heap.size) (at_ n : Nat) :
    ∃ w', (∀ ty, (Builtin.clear_ #[35] ty #[partV D W.d.length c at_ n]).run prog w = .ok (.tuple #[]) w') /\ Wkd w' B gw gs {W with d := zeroB W.d at_ n} /\ Below B w w' /\ ∀ k cs, Blk w k 52 cs -> w'.heap[k]? = w.heap[k]? := by
  obtain ⟨-, -, hc, hD⟩ := x27 h.dat
  obtain ⟨A2, hp, hb, hA⟩ := x9N (h.dat.bytes h.ok) hc at_ n
  have hlen : (partB W.d at_ n).length = min n (W.d.length - min at_ W.d.length) := by unfold partB; simp <;> omega
  by_cases hz : (partB W.d at_ n).length = 0
  · refine ⟨w, fun ty => ?_, ?_, kB _ _, fun _ _ _ => rfl⟩
    · rw [hp, hz]
      cases A2 <;> simp [Builtin.clear_, run_underlying underlying35]
    · have : zeroB W.d at_ n = W.d := by
        unfold zeroB
        rw [<- hlen, hz]
        simp
      rw [this]
      exact ⟨_, _, _, _, _, _, _, _, _, h⟩
  · obtain ⟨ad, e2, _, _⟩ := hb.1.2 (by omega)
    have hA' := hA (.inr (by omega))
    rw [e2] at hA'
    rcases hD with rfl | ⟨b, rfl⟩
    · cases hA'
    · rw [Option.map_some] at hA'
      injection hA' with hA'
      rw [x19] at hA'
      subst hA'
      subst e2
      obtain ⟨w', hrun, hown, hon⟩ := xKG (at_ := min at_ W.d.length) (k := (partB W.d at_ n).length) h.dat (by omega) (by omega)
      have hgb : gw ≠ b := by
        obtain ⟨cs', hb'⟩ := x0J h.dat (k := b) rfl
        exact h.blk.ne_ hb' (by decide)
      have hzb : W.d.take (min at_ W.d.length) ++ List.replicate (partB W.d at_ n).length 0 ++ W.d.drop (min at_ W.d.length + (partB W.d at_ n).length) = zeroB W.d at_ n := by
        unfold zeroB
        rw [hlen]
      rw [hzb] at hown
      refine ⟨w', fun ty => by rw [hp]; exact hrun ty _, h.data (by rw [x5X (by rfl)]; exact h.blk.of (hon.block _ h.blk.lt (by simpa using hgb))) hown (hon.mono fun k hk => by simp at hk; subst hk; simp [rowOf, Value.ownBlock]) (.inl rfl) (xF5 h.ok), hon.below (fun k hk => by simp at hk; subst hk; exact x0G h.dat _ (by simp [rowOf, Value.ownBlock])) hB, fun k cs hk => hon.block k hk.lt fun hm => ?_⟩
      simp at hm
      subst hm
      obtain ⟨cs', hb'⟩ := x0J h.dat (k := k) rfl
      exact hk.ne_ hb' (by decide) rfl
end Go.Proofs.YtpogpajjemaagaaGreatDoor
